/- Is a tree small? -/
import Derived.Test.YtdfegmdmappefaaDoorTMem
namespace Go.Proofs.YtdfegmdmappefaaDoor
open Go.RowKit

def BoolOf (p : Prop) (w : World) (e : Ending) (w' : World) : Prop := w.grownBy w' none ∧ ∃ b : Bool, e = .returned (.bool b) ∧ (b = true ↔ p)
theorem ret_false {p : Prop} {w w' : World} (hg : w.grownBy w' none) (h : ¬ p) : BoolOf p w (.returned (.bool false)) w' := ⟨hg, false, rfl, by simp [h]⟩
def smTok (t : TokI) : Prop := t.lead.length ≤ 100 ∧ t.text.length ≤ 100
def smallT (T : List TokI) (N : List Nd) : Prop := T.length ≤ 100 ∧ N.length ≤ 200 ∧ (∀ t ∈ T, smTok t) ∧ ∀ x ∈ N, x.kids.length ≤ 100

set_option maxRecDepth 100000 in
set_option maxHeartbeats 8000000 in
theorem Small_c (T : List TokI) (N : List Nd) (K : Nat → Option Addr × Nat) (pt pn : Option Addr) (ct cn : Nat) (w : World) (hTm : T.length ≤ maxLen) (hNm : N.length ≤ maxLen) (ht : ToksAt w pt T) (hw : NodesAt w pn N K) :
    Calls Tryd.prog 8 #[.agg #[.slice pt T.length ct, .slice pn N.length cn]] w (BoolOf (smallT T N) w) := by
  unfold maxLen at hTm hNm
  have HT := Lib.hid ht; have HW := Lib.hid hw
  have HS : Hid (smallT T N ↔ T.length ≤ 100 ∧ N.length ≤ 200 ∧ (∀ t ∈ T, smTok t) ∧ ∀ x ∈ N, x.kids.length ≤ 100) := Lib.hid Iff.rfl
  obtain ⟨m, hm⟩ : ∃ m, T.length = m := ⟨_, rfl⟩
  obtain ⟨M, hM⟩ : ∃ M, N.length = M := ⟨_, rfl⟩
  rw [hm, hM] at HS
  rw [hm] at hTm ⊢
  rw [hM] at hNm ⊢
  have HM := Lib.hid hM; have HTL := Lib.hid hm
  clear ht hw hm hM
  by_cases k1 : 100 < m
  · have d1 : decide (100 < m) = true := decide_eq_true k1
    have d1' : decide ((100 : Int) < (m : Int)) = true := decide_eq_true (by omega)
    go_enter Tryd.func8, Tryd.ntmps8
    go_wp2_with fail
    go_ret
    exact ret_false (gb_alloc (gb_refl _ _) _) (fun h => by have := (HS.out.1 h).1; omega)
  · have d1 : decide (100 < m) = false := decide_eq_false k1
    have d1' : decide ((100 : Int) < (m : Int)) = false := decide_eq_false (by omega)
    by_cases k2 : 200 < M
    · have d2 : decide (200 < M) = true := decide_eq_true k2
      have d2' : decide ((200 : Int) < (M : Int)) = true := decide_eq_true (by omega)
      go_enter Tryd.func8, Tryd.ntmps8
      go_wp2_with fail
      go_ret
      exact ret_false (gb_alloc (gb_refl _ _) _) (fun h => by have := (HS.out.1 h).2.1; omega)
    · have d2 : decide (200 < M) = false := decide_eq_false k2
      have d2' : decide ((200 : Int) < (M : Int)) = false := decide_eq_false (by omega)
      go_enter Tryd.func8, Tryd.ntmps8
      go_wp2_with fail
      have hA := heap_alloc_new w (.cells #[.slice pt m ct, .slice pn M cn] 25)
      have hgA := World.grownBy_alloc w (.cells #[.slice pt m ct, .slice pn M cn] 25) none
      generalize (w.alloc (.cells #[.slice pt m ct, .slice pn M cn] 25)) = W at *
      obtain ⟨b, hb⟩ : ∃ b, w.heap.size = b := ⟨_, rfl⟩
      rw [hb] at hA ⊢
      have HA := Lib.hid hA; have HGA := Lib.hid hgA
      clear hA hgA hb
      go_loopw [20] (fun v wr => ∃ k : Nat, k ≤ m ∧ v = .int .i64 k ∧ Hid (∀ (j : Nat) (t : TokI), j < k → T[j]? = some t → smTok t) ∧ Hid (W.grownBy wr none)) (fun v _ => m - (intOf v).toNat)
      case atStart => exact ⟨0, Nat.zero_le _, rfl, Lib.hid (fun j t h => by omega), Lib.hid (gb_refl _ _)⟩
      case round =>
        obtain ⟨k, hk, rfl, HK, HG⟩ := hrel
        by_cases hlt : k < m
        · have d3 : decide ((k : Int) < (m : Int)) = true := decide_eq_true (by omega)
          have d3' : decide (k < m) = true := decide_eq_true hlt
          obtain ⟨t, hx⟩ : ∃ t, T[k]? = some t := ⟨T[k]'(by rw [HTL.out]; exact hlt), List.getElem?_eq_getElem _⟩
          obtain ⟨g, off, rfl, hgl, c0, c1, c2, c3⟩ := tok_at HT.out hx
          have hgw := gb_trans HGA.out HG.out
          have c0 := hgw.cell c0 (by simp)
          have c1 := hgw.cell c1 (by simp)
          have c2 := hgw.cell c2 (by simp)
          have c3 := hgw.cell c3 (by simp)
          obtain ⟨x, hxe⟩ : ∃ x : ByteArray, (⟨t.lead.toArray⟩ : ByteArray) = x := ⟨_, rfl⟩
          obtain ⟨y, hye⟩ : ∃ y : ByteArray, (⟨t.text.toArray⟩ : ByteArray) = y := ⟨_, rfl⟩
          have hxs : x.size = t.lead.length := by rw [← list_len, ← hxe]
          have hys : y.size = t.text.length := by rw [← list_len, ← hye]
          unfold strV at c1 c2
          rw [hxe] at c1
          rw [hye] at c2
          have HX := Lib.hid hx
          have HT1 : Hid (smTok t ↔ x.size ≤ 100 ∧ y.size ≤ 100) := Lib.hid (by rw [hxs, hys]; exact Iff.rfl)
          have HNF := Lib.hid (fun (h : ¬ smTok t) W' (hg : w.grownBy W' none) => ret_false (p := smallT T N) hg (fun hs => h ((HS.out.1 hs).2.2.1 t (List.mem_of_getElem? HX.out))))
          have HGW := Lib.hid hgw
          generalize t.kind = tk at *
          generalize t.pos = tp at *
          clear hx hxe hye hxs hys hgw
          by_cases k3 : 100 < x.size
          · have d4 : decide (100 < x.size) = true := decide_eq_true k3
            have d4' : decide ((100 : Int) < (x.size : Int)) = true := decide_eq_true (by omega)
            go_wp2_with fail
            go_ret
            exact HNF.out (fun h => by have := (HT1.out.1 h).1; omega) _ (gb_alloc HGW.out _)
          · have d4 : decide (100 < x.size) = false := decide_eq_false k3
            have d4' : decide ((100 : Int) < (x.size : Int)) = false := decide_eq_false (by omega)
            by_cases k4 : 100 < y.size
            · have d5 : decide (100 < y.size) = true := decide_eq_true k4
              have d5' : decide ((100 : Int) < (y.size : Int)) = true := decide_eq_true (by omega)
              go_wp2_with fail
              go_ret
              exact HNF.out (fun h => by have := (HT1.out.1 h).2; omega) _ (gb_alloc HGW.out _)
            · have d5 : decide (100 < y.size) = false := decide_eq_false k4
              have d5' : decide ((100 : Int) < (y.size : Int)) = false := decide_eq_false (by omega)
              go_wp2_with fail
              go_roundw
              case rel => exact ⟨k + 1, by omega, by go_num, Lib.hid (fun j t' hj hx => by
                by_cases e : j = k
                · subst e; rw [HX.out] at hx; injection hx with hx; subst hx; exact HT1.out.2 ⟨by omega, by omega⟩
                · exact HK.out j t' (by omega) hx), Lib.hid (gb_alloc HG.out _)⟩
              case measure => (simp [intOf] <;> omega)
        · obtain rfl : k = m := by omega
          obtain ⟨a0, a1, a2⟩ := cells2 (bx HG.out HA.out)
          have HTS : Hid (∀ t ∈ T, smTok t) := Lib.hid (fun t ht => by
            obtain ⟨j, hj⟩ := List.getElem?_of_mem ht
            exact HK.out j t (by have := (List.getElem?_eq_some_iff.1 hj).1; rw [HTL.out] at this; exact this) hj)
          have HGW := Lib.hid (gb_trans HGA.out HG.out)
          obtain ⟨W3, hW3⟩ : ∃ W3, wr = W3 := ⟨_, rfl⟩
          rw [hW3] at HGW a0 a1 a2 ⊢
          clear HK HG hW3
          go_wp2_with fail
          go_loopw [38] (fun v wr => ∃ k : Nat, k ≤ M ∧ v = .int .i64 k ∧ Hid (∀ (j : Nat) (x : Nd), j < k → N[j]? = some x → x.kids.length ≤ 100) ∧ Hid (W3.grownBy wr none)) (fun v _ => M - (intOf v).toNat)
          case atStart => exact ⟨0, Nat.zero_le _, rfl, Lib.hid (fun j t h => by omega), Lib.hid (gb_refl _ _)⟩
          case round =>
            obtain ⟨k, hk, rfl, HK, HG⟩ := hrel
            have HGW2 := Lib.hid (gb_trans HGW.out HG.out)
            by_cases hlt : k < M
            · have d3 : decide ((k : Int) < (M : Int)) = true := decide_eq_true (by omega)
              have d3' : decide (k < M) = true := decide_eq_true hlt
              obtain ⟨x, hx⟩ : ∃ x, N[k]? = some x := ⟨N[k]'(by rw [HM.out]; exact hlt), List.getElem?_eq_getElem _⟩
              obtain ⟨g, off, rfl, hgl, c0, c1, c2⟩ := node_at HW.out hx
              have c0 := HGW2.out.cell c0 (by simp)
              have c1 := HGW2.out.cell c1 (by simp)
              have c2 := HGW2.out.cell c2 (by simp)
              have HX := Lib.hid hx
              obtain ⟨kl, hkl⟩ : ∃ kl, x.kids.length = kl := ⟨_, rfl⟩
              have HKL := Lib.hid hkl
              have HNF := Lib.hid (fun (h : ¬ x.kids.length ≤ 100) W' (hg : w.grownBy W' none) => ret_false (p := smallT T N) hg (fun hs => h ((HS.out.1 hs).2.2.2 x (List.mem_of_getElem? HX.out))))
              rw [hkl] at c2 HNF
              generalize x.kind = xk at *
              generalize x.tok = xt at *
              generalize (K k) = kn at *
              obtain ⟨q, kc⟩ := kn
              simp only at c2
              clear hx hkl
              by_cases k3 : 100 < kl
              · have d4 : decide (100 < kl) = true := decide_eq_true k3
                have d4' : decide ((100 : Int) < (kl : Int)) = true := decide_eq_true (by omega)
                go_wp2_with fail
                go_ret
                exact HNF.out (by omega) _ (gb_alloc HGW2.out _)
              · have d4 : decide (100 < kl) = false := decide_eq_false k3
                have d4' : decide ((100 : Int) < (kl : Int)) = false := decide_eq_false (by omega)
                go_wp2_with fail
                go_roundw
                case rel => exact ⟨k + 1, by omega, by go_num, Lib.hid (fun j x' hj hx => by
                  by_cases e : j = k
                  · subst e; rw [HX.out] at hx; injection hx with hx; subst hx; rw [HKL.out]; omega
                  · exact HK.out j x' (by omega) hx), Lib.hid (gb_alloc HG.out _)⟩
                case measure => (simp [intOf] <;> omega)
            · obtain rfl : k = M := by omega
              go_wp2_with fail
              go_ret
              exact ⟨HGW2.out, true, rfl, by
                refine iff_of_true rfl (HS.out.2 ⟨by omega, by omega, HTS.out, fun x hx => ?_⟩)
                obtain ⟨j, hj⟩ := List.getElem?_of_mem hx
                exact HK.out j x (by have := (List.getElem?_eq_some_iff.1 hj).1; rw [HM.out] at this; exact this) hj⟩
end Go.Proofs.YtdfegmdmappefaaDoor
