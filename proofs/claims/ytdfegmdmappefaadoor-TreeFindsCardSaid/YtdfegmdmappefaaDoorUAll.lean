/- All; the law on it. -/
import Derived.Test.YtdfegmdmappefaaDoorUGrow
import Derived.Test.YtdfegmdmappefaaDoorUSmall
namespace Go.Proofs.YtdfegmdmappefaaDoor
open Go.RowKit

def findN (N : List Nd) (kind : Int) (k : Nat) : List Int := ((List.range k).filter fun i => decide (N[i]?.map (·.kind) = some kind)).map fun (i : Nat) => (i : Int)
theorem findN_hit {N : List Nd} {kind : Int} {k : Nat} {x : Nd} (hx : N[k]? = some x) (h : x.kind = kind) : findN N kind (k + 1) = findN N kind k ++ [(k : Int)] := by
  unfold findN; rw [List.range_succ, List.filter_append, List.map_append]; simp [hx, h]
theorem findN_miss {N : List Nd} {kind : Int} {k : Nat} {x : Nd} (hx : N[k]? = some x) (h : x.kind ≠ kind) : findN N kind (k + 1) = findN N kind k := by
  unfold findN; rw [List.range_succ, List.filter_append, List.map_append]; simp [hx, h]
theorem findN_len (N : List Nd) (kind : Int) (k : Nat) : (findN N kind k).length ≤ k := by
  unfold findN
  rw [List.length_map]
  have := List.length_filter_le (fun i => decide (N[i]?.map (·.kind) = some kind)) (List.range k)
  rw [List.length_range] at this; exact this
theorem findN_pre (N : List Nd) (kind : Int) (i : Nat) : ∀ d, ∃ R, findN N kind (i + d) = findN N kind i ++ R := by
  intro d
  induction d with
  | zero => exact ⟨[], by simp⟩
  | succ d ih =>
    obtain ⟨R, hR⟩ := ih
    refine ⟨R ++ (((List.range 1).map (i + d + ·)).filter fun j => decide (N[j]?.map (·.kind) = some kind)).map fun (i : Nat) => (i : Int), ?_⟩
    rw [← List.append_assoc, ← hR]
    unfold findN
    rw [← Nat.add_assoc, List.range_succ, List.filter_append, List.map_append]
    simp

set_option maxRecDepth 100000 in
set_option maxHeartbeats 8000000 in
theorem All_c (N : List Nd) (K : Nat → Option Addr × Nat) (hN : N.length ≤ 1000) (pt pn : Option Addr) (mt ct cn : Nat) (kind : Int) (w : World) (hw : NodesAt w pn N K) :
    Calls Tryd.prog 25 #[.agg #[.slice pt mt ct, .slice pn N.length cn], .int .i64 kind] w (sliceOf (findN N kind N.length) w) := by
  have HW := Lib.hid hw
  obtain ⟨M, hM⟩ : ∃ M, N.length = M := ⟨_, rfl⟩
  have HM := Lib.hid hM
  rw [hM] at hN ⊢
  clear hM hw
  go_enter Tryd.func25, Tryd.ntmps25
  go_wp2_with fail
  have hA := heap_alloc_new w (.cells #[.slice pt mt ct, .slice pn M cn] 25)
  have hgA := World.grownBy_alloc w (.cells #[.slice pt mt ct, .slice pn M cn] 25) none
  have hsA : (w.alloc (.cells #[.slice pt mt ct, .slice pn M cn] 25)).heap.size = w.heap.size + 1 := by simp
  generalize (w.alloc (.cells #[.slice pt mt ct, .slice pn M cn] 25)) = W at *
  obtain ⟨b, hb⟩ : ∃ b, w.heap.size = b := ⟨_, rfl⟩
  have HBW := Lib.hid hb
  rw [hb] at hA hsA ⊢
  have HA := Lib.hid hA; have HGA := Lib.hid hgA; have HSA := Lib.hid hsA
  clear hA hgA hsA hb
  go_loopw [5, 11] (fun ov v wr => ∃ k : Nat, k ≤ M ∧ v = .int .i64 k ∧ Hid (OwnL wr (b + 1) ov (findN N kind k)) ∧ Hid (Below (b + 1) W wr)) (fun _ v _ => M - (intOf v).toNat)
  case atStart => exact ⟨0, Nat.zero_le _, rfl, Lib.hid (OwnL.nil _ _), Lib.hid (Below.refl _ _)⟩
  case round =>
    obtain ⟨k, hk, rfl, HO, HB⟩ := hrel
    have HGW : Hid (w.grownBy wr none) := Lib.hid (below_gb (Below.trans2 (Below.gb HGA.out (Nat.le_refl _)) (HB.out.mono (by rw [HBW.out]; omega))))
    by_cases hlt : k < M
    · have d1 : decide ((k : Int) < (M : Int)) = true := decide_eq_true (by omega)
      have d1' : decide (k < M) = true := decide_eq_true hlt
      obtain ⟨x, hx⟩ : ∃ x, N[k]? = some x := ⟨N[k]'(by rw [HM.out]; exact hlt), List.getElem?_eq_getElem _⟩
      obtain ⟨g, off, rfl, hgl, c0, c1, c2⟩ := node_at HW.out hx
      have c0 := HGW.out.cell c0 (by simp)
      have c1 := HGW.out.cell c1 (by simp)
      have c2 := HGW.out.cell c2 (by simp)
      have HX := Lib.hid hx
      obtain ⟨xk, hxk⟩ : ∃ xk, x.kind = xk := ⟨_, rfl⟩
      obtain ⟨xt, hxt⟩ : ∃ xt, x.tok = xt := ⟨_, rfl⟩
      obtain ⟨kl, hkl⟩ : ∃ kl, x.kids.length = kl := ⟨_, rfl⟩
      have HXK := Lib.hid hxk
      rw [hxk] at c0
      rw [hxt] at c1
      rw [hkl] at c2
      clear hx hxk hxt hkl
      generalize K k = kk at *
      obtain ⟨kq, kc⟩ := kk
      simp only at c2
      have hgX := World.grownBy_alloc wr (.cells #[.int .i64 xk, .int .i64 xt, .slice kq kl kc] 56) none
      have HO2 : Hid (OwnL (wr.alloc (.cells #[.int .i64 xk, .int .i64 xt, .slice kq kl kc] 56)) (b + 1) u5 (findN N kind k)) := Lib.hid (OwnG.kept HO.out hgX)
      have hbr : b + 1 ≤ wr.heap.size := by have := HB.out.size; have := HSA.out; omega
      have HB2 := Lib.hid (Below.trans2 HB.out (Below.gb hgX hbr))
      have HX2 := Lib.hid (heap_alloc_new wr (.cells #[.int .i64 xk, .int .i64 xt, .slice kq kl kc] 56))
      have hgw : g < wr.heap.size := Nat.lt_of_lt_of_le hgl HGW.out.size
      clear hgX
      by_cases hkk : xk = kind
      · have HFI := Lib.hid (findN_hit HX.out (HXK.out.trans hkk))
        subst hkk
        have HHL : Hid ((one (intsV (findN N xk k))).length = (findN N xk k).length) := Lib.hid (by rw [one_len, intsV_len])
        have HLE : Hid ((one (intsV (findN N xk k))).length ≤ 1000000) := Lib.hid (by rw [HHL.out]; have := findN_len N xk k; omega)
        obtain ⟨W2, hW2⟩ : ∃ W2, (wr.alloc (.cells #[.int .i64 xk, .int .i64 xt, .slice kq kl kc] 56)) = W2 := ⟨_, rfl⟩
        rw [hW2] at HO2 HB2 HX2
        have hs2 : b + 1 ≤ W2.heap.size := by rw [← hW2]; simp; omega
        have HW2 := Lib.hid hW2
        clear hW2 HO HB
        go_wp2_with (at_builtin; go_loud (refine wpList_appGl (s := 1) (t := 45) (T := 3) (by decide) Tryd.underlying45 infoI rfl (by omega) rfl _ _ rfl (b + 1) (one (intsV (findN N xk k))) [.int .i64 (k : Int)] rfl (by simp [Value.oneCell']) u5 rfl (by rw [HW2.out]; exact OwnG.kept HO2.out (World.grownBy_alloc W2 _ none)) (wr.heap.size + 1) _ rfl (by rw [HW2.out, show wr.heap.size + 1 = W2.heap.size by rw [← HW2.out]; simp]; exact heap_alloc_new W2 _) rfl HLE.out (by simp; omega) (wr.heap.size + 2) (by simp) ?_))
        intro g9 cap9 w9 hO9 hg9 _
        rw [HHL.out] at hO9 ⊢
        have HO9 : Hid (OwnL w9 (b + 1) (.slice (some ⟨g9, 0, none⟩) ((findN N xk k).length + 1) cap9) (findN N xk (k + 1))) := Lib.hid (by rw [HFI.out]; exact OwnL.app hO9)
        rw [HW2.out] at hg9
        have HB9 := Lib.hid ((Below.trans2 HB2.out (Below.gb (World.grownBy_alloc W2 _ none) hs2)).grown hg9 (by simp; omega) (fun k e => (OwnG.at HO2.out k e).1))
        clear hO9 hg9
        go_wp2_with fail
        go_roundw
        case rel => exact ⟨k + 1, by omega, by go_num, HO9, HB9⟩
        case measure => (simp [intOf] <;> omega)
      · have HFI := Lib.hid (findN_miss HX.out (fun h => hkk (HXK.out.symm.trans h)))
        have e1 : (xk == kind) = false := beq_eq_false_iff_ne.2 hkk
        go_wp2_with fail
        go_roundw
        case rel => exact ⟨k + 1, by omega, by go_num, Lib.hid (by rw [HFI.out]; exact HO2.out), HB2⟩
        case measure => (simp [intOf] <;> omega)
    · obtain rfl : k = M := by omega
      obtain ⟨p, c, rfl, hv, -⟩ := HO.out.parts
      have HV := Lib.hid hv
      clear hv
      go_wp2_with fail
      go_ret
      exact ⟨HGW.out, p, c, rfl, HV.out⟩
end Go.Proofs.YtdfegmdmappefaaDoor
