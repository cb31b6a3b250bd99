/- The law on the nodes of a kind, walked. -/
import Derived.Test.YtdfegmdmappefaaDoorUAnc
import Derived.Test.YtdfegmdmappefaaDoorUAll
namespace Go.Proofs.YtdfegmdmappefaaDoor
open Go.RowKit

set_option maxRecDepth 100000 in
set_option maxHeartbeats 16000000 in
theorem finds_c (T : List TokI) (N : List Nd) (K : Nat → Option Addr × Nat) (pt pn : Option Addr) (ct cn : Nat) (kind : Int) (w : World) (hTm : T.length ≤ maxLen) (hNm : N.length ≤ maxLen) (ht : ToksAt w pt T) (hw : NodesAt w pn N K) (hla : LaidE w) :
    Calls Tryd.prog 5 #[.agg #[.slice pt T.length ct, .slice pn N.length cn], .int .i64 kind] w (ValPost (.bool true) w) := by
  have HS := Lib.hid (fun W h1 h2 => Small_c T N K pt pn ct cn W hTm hNm h1 h2)
  have HT := Lib.hid ht; have HW := Lib.hid hw; have HLA := Lib.hid hla
  have HAL := Lib.hid (fun W (hs : N.length ≤ 1000) h => All_c N K hs pt pn T.length ct cn kind W h)
  have HSM : Hid (smallT T N → N.length ≤ 200) := Lib.hid (fun h => h.2.1)
  obtain ⟨m, hm⟩ : ∃ m, T.length = m := ⟨_, rfl⟩
  obtain ⟨M, hM⟩ : ∃ M, N.length = M := ⟨_, rfl⟩
  have HM := Lib.hid hM
  rw [hm, hM] at HS HAL
  rw [hM] at HSM
  rw [hm, hM]
  clear hm hM ht hw hla hTm hNm
  go_enter Tryd.func5, Tryd.ntmps5
  go_wp2_with fail
  have hA := heap_alloc_new w (.cells #[.slice pt m ct, .slice pn M cn] 25)
  have hgA := World.grownBy_alloc w (.cells #[.slice pt m ct, .slice pn M cn] 25) none
  generalize (w.alloc (.cells #[.slice pt m ct, .slice pn M cn] 25)) = W at *
  obtain ⟨b, hb⟩ : ∃ b, w.heap.size = b := ⟨_, rfl⟩
  rw [hb] at hA ⊢
  have HA := Lib.hid hA; have HGA := Lib.hid hgA
  clear hA hgA hb
  refine (anchor6_c _ (HLA.out.kept HGA.out)).mono ?_
  rintro e w1 ⟨rfl, hg⟩
  have HG1 := Lib.hid (gb_trans HGA.out hg)
  have HA1 := Lib.hid (bx hg HA.out)
  obtain ⟨a0, a1⟩ := cells_tree HA1.out
  clear hg HA HGA
  go_wp2_with fail
  refine (HS.out w1 (HT.out.kept HG1.out) (HW.out.kept HG1.out)).mono ?_
  rintro e w2 ⟨hg, c, rfl, hc⟩
  have HC := Lib.hid hc
  have HG2 := Lib.hid (gb_trans HG1.out hg)
  have HA2 := Lib.hid (bx hg HA1.out)
  obtain ⟨b0, b1⟩ := cells_tree HA2.out
  clear hg HA1 HG1 hc a0 a1
  cases c
  · go_wp2_with fail
    go_ret
    exact ⟨rfl, HG2.out⟩
  · have hM2 := HSM.out (HC.out.1 rfl)
    go_wp2_with fail
    refine (HAL.out w2 (by omega) (HW.out.kept HG2.out)).mono ?_
    rintro e w3 ⟨hg, p, c, rfl, hv⟩
    have HV := Lib.hid hv
    have HG3 := Lib.hid (gb_trans HG2.out hg)
    have HA3 := Lib.hid (bx hg HA2.out)
    obtain ⟨a0, a1⟩ := cells_tree HA3.out
    have hln := findN_len N kind M
    obtain ⟨L, hL⟩ : ∃ L, findN N kind M = L := ⟨_, rfl⟩
    have HPR : Hid (∀ i, i ≤ M → ∃ R, L = findN N kind i ++ R) := Lib.hid (fun i hi => by
      obtain ⟨R, hR⟩ := findN_pre N kind i (M - i)
      rw [show i + (M - i) = M by omega, hL] at hR
      exact ⟨R, hR⟩)
    have HLL := Lib.hid hL
    rw [hL] at HV hln ⊢
    obtain ⟨n, hn⟩ : ∃ n, L.length = n := ⟨_, rfl⟩
    have HN := Lib.hid hn
    rw [hn] at hln ⊢
    clear hv hg HA2 HG2 b0 b1 hL hn HAL
    go_wp2_with fail
    go_loopw [6, 20] (fun kv v wr => ∃ i : Nat, i ≤ M ∧ v = .int .i64 i ∧ kv = .int .i64 ((findN N kind i).length : Int) ∧ Hid (w3.grownBy wr none)) (fun _ v _ => M - (intOf v).toNat)
    case atStart => exact ⟨0, Nat.zero_le _, rfl, rfl, Lib.hid (gb_refl _ _)⟩
    case round =>
      obtain ⟨i, hi, rfl, rfl, HG⟩ := hrel
      have HGW := Lib.hid (gb_trans HG3.out HG.out)
      by_cases hlt : i < M
      · have d1 : decide ((i : Int) < (M : Int)) = true := decide_eq_true (by omega)
        have d1' : decide (i < M) = true := decide_eq_true hlt
        obtain ⟨x, hx⟩ : ∃ x, N[i]? = some x := ⟨N[i]'(by rw [HM.out]; exact hlt), List.getElem?_eq_getElem _⟩
        obtain ⟨g, off, rfl, hgl, c0, c1, c2⟩ := node_at HW.out hx
        have c0 := HGW.out.cell c0 (by simp)
        have c1 := HGW.out.cell c1 (by simp)
        have c2 := HGW.out.cell c2 (by simp)
        have HX := Lib.hid hx
        obtain ⟨xk, hxk⟩ : ∃ xk, x.kind = xk := ⟨_, rfl⟩
        obtain ⟨xt, hxt⟩ : ∃ xt, x.tok = xt := ⟨_, rfl⟩
        obtain ⟨kl, hkl⟩ : ∃ kl, x.kids.length = kl := ⟨_, rfl⟩
        have HXK := Lib.hid hxk
        rw [hxk] at c0
        rw [hxt] at c1
        rw [hkl] at c2
        clear hx hxk hxt hkl
        generalize K i = kk at *
        obtain ⟨kq, kc⟩ := kk
        simp only at c2
        have HGX := Lib.hid (gb_trans HG.out (World.grownBy_alloc wr (.cells #[.int .i64 xk, .int .i64 xt, .slice kq kl kc] 56) none))
        have hgw : g < wr.heap.size := Nat.lt_of_lt_of_le hgl HGW.out.size
        by_cases hkk : xk = kind
        · have HFI := Lib.hid (findN_hit HX.out (HXK.out.trans hkk))
          subst hkk
          obtain ⟨R, hR⟩ := HPR.out (i + 1) (by omega)
          rw [HFI.out] at hR
          have hfl : (findN N xk (i + 1)).length = (findN N xk i).length + 1 := by rw [HFI.out]; simp
          obtain ⟨j, hj⟩ : ∃ j, (findN N xk i).length = j := ⟨_, rfl⟩
          have hLj : L[j]? = some (i : Int) := by rw [hR, ← hj]; simp
          have hjn : j < n := by rw [← HN.out]; exact (List.getElem?_eq_some_iff.1 hLj).1
          obtain ⟨g2, o2, rfl, hg2, ck⟩ := kid_at HV.out hLj
          have ck := HG.out.cell ck (by simp)
          have hg2w : g2 < wr.heap.size := Nat.lt_of_lt_of_le hg2 HG.out.size
          rw [hj] at hfl ⊢
          have HFL := Lib.hid hfl
          have e1 : (xk != xk) = false := by simp
          have e2 : decide ((n : Int) ≤ (j : Int)) = false := decide_eq_false (by omega)
          have e2' : decide (n ≤ j) = false := decide_eq_false (by omega)
          have hw1 : IntKind.i64.wrap ((j : Int) + 1) = (j : Int) + 1 := IntWalk.i64_in _ (by omega)
          have hjb : j ≤ 1000 := by omega
          clear hR hfl hj hLj
          go_wp2_with fail
          go_roundw
          case rel => exact ⟨i + 1, by omega, by go_num, val_of (by rw [HFL.out]; omega), HGX⟩
          case measure => (simp [intOf] <;> omega)
        · have HFI := Lib.hid (findN_miss HX.out (fun h => hkk (HXK.out.symm.trans h)))
          have e1 : (xk == kind) = false := beq_eq_false_iff_ne.2 hkk
          have e1' : (xk != kind) = true := by rw [bne, e1]; rfl
          go_wp2_with fail
          go_roundw
          case rel => exact ⟨i + 1, by omega, by go_num, val_of (by rw [HFI.out]), HGX⟩
          case measure => (simp [intOf] <;> omega)
      · obtain rfl : i = M := by omega
        rw [HLL.out, HN.out]
        go_wp2_with fail
        go_ret
        exact ⟨by simp, HGW.out⟩
end Go.Proofs.YtdfegmdmappefaaDoor
