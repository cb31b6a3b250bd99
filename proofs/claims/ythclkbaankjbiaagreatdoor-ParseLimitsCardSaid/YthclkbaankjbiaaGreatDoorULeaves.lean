/- The tokens of a node's leaves: leafTokens. -/
import Derived.Test.YthclkbaankjbiaaGreatDoorM8
namespace Go.Proofs.YthclkbaankjbiaaGreatDoor
open Go.RowKit

theorem list_last {α : Type} (l : List α) : l = [] ∨ ∃ r x, l = r ++ [x] := by
  by_cases h : l = []
  · exact .inl h
  · exact .inr ⟨_, _, (List.dropLast_concat_getLast h).symm⟩

theorem info_int : (Tryz.prog.info? 3).map (fun i => (i.zero, i.size, i.bytes)) = some (some (.int .i64 0), 1, 8) := infoI

set_option maxRecDepth 100000 in
set_option maxHeartbeats 8000000 in
theorem leafTokens_c {m : Nat} (N : List Nd) (K : Nat → Option Addr × Nat) (hf : Forms m N) (hN : N.length ≤ 10000) (pt pn : Option Addr) (mt ct cn n : Nat) (hn : n < N.length) (w : World) (hw : NodesAt w pn N K) :
    Calls Tryz.prog 55 #[.agg #[.slice pt mt ct, .slice pn N.length cn], .int .i64 (n : Int)] w (sliceOf (lv N n) w) := by
  have hz0 := sz_le hf hn
  have HAH := Lib.hid hf.ahead
  have HFO := Lib.hid hf
  have HW := Lib.hid hw
  obtain ⟨M, hM⟩ : ∃ M, N.length = M := ⟨_, rfl⟩
  have HM := Lib.hid hM
  rw [hM] at hn hN ⊢
  have hsz : szL N [(n : Int)] ≤ 10000 := by rw [szL_one, Int.toNat_natCast]; omega
  have HR0 : Hid ([] ++ restL N [(n : Int)] = lv N n) := Lib.hid (by unfold restL; simp)
  have HSZ0 := Lib.hid hsz
  obtain ⟨L, hL⟩ : ∃ L, lv N n = L := ⟨_, rfl⟩
  rw [hL] at HR0 ⊢
  clear hf hw hM hL hz0 hsz
  go_enter Tryz.func55, Tryz.ntmps55
  go_wp2_with fail
  have hA := heap_alloc_new w (.cells #[.slice pt mt ct, .slice pn M cn] 26)
  have hgA := World.grownBy_alloc w (.cells #[.slice pt mt ct, .slice pn M cn] 26) none
  have hsA : (w.alloc (.cells #[.slice pt mt ct, .slice pn M cn] 26)).heap.size = w.heap.size + 1 := by simp
  generalize (w.alloc (.cells #[.slice pt mt ct, .slice pn M cn] 26)) = W1 at *
  have hO1 := OwnL.new W1 (w.heap.size + 1) (n : Int) (w.heap.size + 1) hsA (Nat.le_refl _)
  have hgB := World.grownBy_alloc W1 (.cells #[.int .i64 (n : Int)] 3) none
  generalize (W1.alloc (.cells #[.int .i64 (n : Int)] 3)) = W2 at *
  obtain ⟨b, hb⟩ : ∃ b, w.heap.size = b := ⟨_, rfl⟩
  have HBW := Lib.hid hb
  rw [hb] at hA hO1 hsA ⊢
  have HA := Lib.hid hA; have HGA := Lib.hid hgA; have HO1 := Lib.hid hO1; have HSA := Lib.hid hsA
  have HB2 : Hid (Below (b + 1) W1 W2) := Lib.hid (Below.gb hgB (by omega))
  clear hA hgA hO1 hgB hsA hb
  go_loopw [5, 6] (fun ov tv wr => ∃ O S : List Int, Hid (OwnL wr (b + 1) ov O) ∧ Hid (OwnL wr (b + 1) tv S) ∧ Hid (Sep ov tv) ∧ Hid (O ++ restL N S = L) ∧ Hid (∀ k ∈ S, 0 ≤ k ∧ k < (M : Int)) ∧ Hid (szL N S + O.length ≤ 10000) ∧ Hid (Below (b + 1) W1 wr)) (fun _ tv wr => szL N (readInts wr tv))
  case atStart => exact ⟨[], [(n : Int)], Lib.hid (OwnL.nil _ _), HO1, Lib.hid (fun k h => by cases h), HR0, Lib.hid (fun k hk => by simp at hk; subst hk; omega), Lib.hid (by have := HSZ0.out; simpa using this), HB2⟩
  case round =>
    clear HO1 HB2
    obtain ⟨O, S, HO, HS, HSEP, HR, HIN, HSZ, HB⟩ := hrel
    have HGW : Hid (w.grownBy wr none) := Lib.hid (below_gb (Below.trans2 (Below.gb HGA.out (Nat.le_refl _)) (HB.out.mono (by rw [HBW.out]; omega))))
    obtain ⟨a0, a1⟩ := cells_tree ((HB.out.block b (by omega)).trans HA.out)
    rcases list_last S with rfl | ⟨S', k, rfl⟩
    · obtain ⟨p, c, rfl, -⟩ := HS.out.parts
      obtain ⟨po, co, rfl, hvo, -⟩ := HO.out.parts
      have HVO := Lib.hid hvo
      have hOL : O = L := by have := HR.out; simpa [restL] using this
      subst hOL
      simp only [List.length_nil] at *
      clear hvo
      go_wp2_with fail
      go_ret
      exact ⟨HGW.out, po, co, rfl, HVO.out⟩
    · obtain ⟨p, c, rfl, hvS, hcS, hcS2, -⟩ := HS.out.parts
      obtain ⟨hpl, hpop, hpb⟩ := HS.out.pop
      obtain ⟨hk0, hk1⟩ := HIN.out k (by simp)
      obtain ⟨kn, rfl⟩ : ∃ kn : Nat, k = (kn : Int) := ⟨k.toNat, by omega⟩
      have hkn : kn < M := by omega
      obtain ⟨x, hx⟩ : ∃ x, N[kn]? = some x := ⟨N[kn]'(by rw [HM.out]; exact hkn), List.getElem?_eq_getElem _⟩
      obtain ⟨g, off, rfl, hgl, c0, c1, c2⟩ := node_at HW.out hx
      have c0 := HGW.out.cell c0 (by simp)
      have c1 := HGW.out.cell c1 (by simp)
      have c2 := HGW.out.cell c2 (by simp)
      have HKA := Lib.hid (HW.out.2 kn x hx)
      obtain ⟨gs, os, rfl, hgs, cs⟩ := kid_at hvS (l := S' ++ [(kn : Int)]) (j := S'.length) (x := (kn : Int)) (by simp)
      obtain ⟨q, hq⟩ : ∃ q, S'.length = q := ⟨_, rfl⟩
      obtain ⟨q1, hq1⟩ : ∃ q1, (S' ++ [(kn : Int)]).length = q1 := ⟨_, rfl⟩
      have hqq : q1 = q + 1 := by rw [← hq1, ← hq]; simp
      have HQ := Lib.hid hq
      have hszl := HSZ.out
      have hz1 := szL_len HAH.out (S := S' ++ [(kn : Int)]) (fun j hj => by rw [HM.out]; exact HIN.out j hj)
      have hq1000 : q1 ≤ 10000 := by omega
      rw [hq1] at hcS
      rw [hq1] at hpb HS
      rw [hq] at hpop hpb cs
      have HPOP := Lib.hid hpop; have HPB := Lib.hid hpb
      obtain ⟨xk, hxk⟩ : ∃ xk, x.kind = xk := ⟨_, rfl⟩
      obtain ⟨xt, hxt⟩ : ∃ xt, x.tok = xt := ⟨_, rfl⟩
      obtain ⟨kl, hkl⟩ : ∃ kl, x.kids.length = kl := ⟨_, rfl⟩
      have HXK := Lib.hid hxk; have HXT := Lib.hid hxt; have HKL := Lib.hid hkl; have HX := Lib.hid hx
      rw [hxk] at c0
      rw [hxt] at c1
      rw [hkl] at c2
      have hd0 : decide ((0 : Int) < (q1 : Int)) = true := decide_eq_true (by omega)
      have hd0' : decide (0 < q1) = true := decide_eq_true (by omega)
      have hd1 : decide (q < q1) = true := decide_eq_true (by omega)
      have hd1' : decide ((q : Int) < (q1 : Int)) = true := decide_eq_true (by omega)
      have hd2 : decide (kn < M) = true := decide_eq_true hkn
      have hd2' : decide ((kn : Int) < (M : Int)) = true := decide_eq_true (by omega)
      have hd3 : decide (q ≤ c) = true := decide_eq_true (by omega)
      have hw1 : IntKind.i64.wrap ((q1 : Int) - 1) = (q : Int) := by rw [IntWalk.i64_in _ (by omega)]; omega
      have hqc : q ≤ c := by omega
      rw [hq1]
      have hgw : g < wr.heap.size := Nat.lt_of_lt_of_le hgl HGW.out.size
      have hbw : b < wr.heap.size := by have := HB.out.size; have := HSA.out; omega
      clear hx hxk hxt hkl hq hq1 hvS hcS hpop hpb hszl hz1
      generalize K kn = kk at *
      obtain ⟨kq, kc⟩ := kk
      simp only at c2 HKA
      have HQQ := Lib.hid hqq
      have HRD := Lib.hid (readInts_own HS.out)
      have hX := heap_alloc_new wr (.cells #[.int .i64 xk, .int .i64 xt, .slice kq kl kc] 39)
      have hgX := World.grownBy_alloc wr (.cells #[.int .i64 xk, .int .i64 xt, .slice kq kl kc] 39) none
      have hq01 : q < q1 := by omega
      clear hqq
      go_wp2_with fail
      go_region
      have hX3 : ((wr.alloc (.cells #[.int .i64 xk, .int .i64 xt, .slice kq kl kc] 39)).drew).heap[wr.heap.size]? = _ := hX
      have hgX3 := gb_drew hgX
      generalize ((wr.alloc (.cells #[.int .i64 xk, .int .i64 xt, .slice kq kl kc] 39)).drew) = W3 at *
      have hob : ∀ k, u5.ownBlock = some k → k < wr.heap.size := fun k e => (OwnG.at HO.out k e).2
      have HOB := Lib.hid hob
      have hpb3 : ∀ k, (Value.slice (some ⟨gs, os, none⟩) q c).ownBlock = some k → b + 1 ≤ k := fun k e => (OwnG.at HPOP.out k e).1
      have HPB3 := Lib.hid hpb3
      have HO3 : Hid (OwnL W3 (b + 1) u5 O) := Lib.hid (OwnG.kept HO.out hgX3)
      have HP3 : Hid (OwnL W3 (b + 1) (.slice (some ⟨gs, os, none⟩) q c) S') := Lib.hid (OwnG.kept HPOP.out hgX3)
      have HSE3 : Hid (Sep u5 (.slice (some ⟨gs, os, none⟩) q c)) := Lib.hid (fun k h1 h2 => HSEP.out k h1 h2)
      have HB3 := Lib.hid (Below.trans2 HB.out (Below.gb hgX3 (by omega)))
      have HX3 := Lib.hid hX3
      have hXw : wr.heap.size < W3.heap.size := hlt' hX3
      obtain ⟨X, hXX⟩ : ∃ X, wr.heap.size = X := ⟨_, rfl⟩
      rw [hXX] at HX3 HOB hXw hbw ⊢
      clear hX hgX hX3 hgX3 hob hpb3 hXX HO HS HSEP HB HPOP HPB a0 a1 c0 c1 c2 cs hgw hgs
      obtain ⟨e0, e1, e2, e3⟩ := cells3 HX3.out
      have HTAIL : Hid (∀ (O' : List Int) (ov : Value) (W : World), O' ++ restL N (S' ++ x.kids.reverse) = L → szL N (S' ++ x.kids.reverse) + O'.length + 1 ≤ szL N (S' ++ [(kn : Int)]) + O.length + 1 → szL N (S' ++ x.kids.reverse) < szL N (S' ++ [(kn : Int)]) → True) := Lib.hid (fun _ _ _ _ _ _ => trivial)
      clear HTAIL
      have HIN2 : Hid (∀ k ∈ S' ++ x.kids.reverse, 0 ≤ k ∧ k < (M : Int)) := Lib.hid (fun k hk => by
        rcases List.mem_append.1 hk with hk | hk
        · exact HIN.out k (List.mem_append_left _ hk)
        · have := kids_in HFO.out HX.out k hk
          omega)
      have HAB := Lib.hid (fun (W : World) (hb : b + 1 ≤ W.heap.size) (ho : OwnL W (b + 1) (.slice (some ⟨gs, os, none⟩) q c) S') (hg : w.grownBy W none) => appendBackward_c (b + 1) S' x.kids _ kq kc W hb ho (HKA.out.kept hg) (fun hne a ha => by
        obtain ⟨g2, o2, e, hl, -⟩ := HKA.out.resolve_left (fun h0 => hne (List.length_eq_zero_iff.1 (by have := congrArg List.length h0; rwa [intsV_len] at this)))
        rw [ha] at e
        cases e
        refine ⟨Nat.lt_of_lt_of_le hl hg.size, fun e => ?_⟩
        have h1 := HPB3.out _ e
        have h2 := HBW.out
        simp at h1
        omega) (by
        have h1 := HSZ.out
        have h2 := szL_len HAH.out (S := S' ++ x.kids.reverse) (fun j hj => by rw [HM.out]; exact HIN2.out j hj)
        rw [List.length_append, List.length_reverse] at h2
        by_cases h19 : x.kind = 19
        · have h3 := leaf_step HFO.out (S := S') (k := (kn : Int)) HX.out h19
          rw [h3.2.2] at h1
          rw [h3.2.1, List.reverse_nil, List.append_nil] at h2
          rw [h3.2.1]; simp only [List.length_nil] at h2 ⊢; omega
        · have h3 := node_step HFO.out (S := S') (k := (kn : Int)) HX.out h19
          omega))
      rw [HKL.out] at HAB
      have hb3 : b + 1 ≤ W3.heap.size := by omega
      by_cases h19 : xk = 19
      · have H19 := Lib.hid (leaf_step HFO.out (S := S') (k := (kn : Int)) HX.out (HXK.out.trans h19))
        subst h19
        have hHo : ((one (intsV O)).length ≤ 1000000) := by rw [one_len, intsV_len]; have := HSZ.out; omega
        have HHO := Lib.hid hHo
        have HOL : Hid ((one (intsV O)).length = O.length) := Lib.hid (by rw [one_len, intsV_len])
        clear hHo
        go_wp2_with (at_builtin; go_loud (refine wpList_appGl (s := 1) (t := 37) (T := 3) (by decide) Tryz.underlying37 infoI rfl (by omega) rfl _ _ rfl (b + 1) (one (intsV O)) [.int .i64 xt] rfl (by simp [Value.oneCell']) u5 rfl (OwnG.kept HO3.out (World.grownBy_alloc W3 _ none)) W3.heap.size #[.int .i64 xt] rfl (heap_alloc_new W3 _) rfl HHO.out (by simp; omega) (W3.heap.size + 1) (by simp) ?_))
        intro g9 cap9 w9 hO9 hg9 hl9
        rw [HOL.out] at hO9 ⊢
        have HO9 : Hid (OwnL w9 (b + 1) (.slice (some ⟨g9, 0, none⟩) (O.length + 1) cap9) (O ++ [xt])) := Lib.hid (OwnL.app hO9)
        have HP9 : Hid (OwnL w9 (b + 1) (.slice (some ⟨gs, os, none⟩) q c) S') := Lib.hid (OwnG.keptR (OwnG.kept HP3.out (World.grownBy_alloc W3 _ none)) hg9 (fun k e h => HSE3.out k h e))
        have HX9 := Lib.hid ((hg9.block X (by simp; omega) (fun e => by have := HOB.out X e.symm; omega)).trans (bx (World.grownBy_alloc W3 _ none) HX3.out))
        have HB9 := Lib.hid ((Below.trans2 HB3.out (Below.gb (World.grownBy_alloc W3 _ none) hb3)).grown hg9 (by simp; omega) (fun k e => (OwnG.at HO3.out k e).1))
        have HSE9 : Hid (Sep (.slice (some ⟨g9, 0, none⟩) (O.length + 1) cap9) (.slice (some ⟨gs, os, none⟩) q c)) := Lib.hid (fun k h1 h2 => by
          have h3 : g9 = k := by simpa [Value.ownBlock] using h1
          subst h3
          rcases hl9 with h | h
          · exact HSE3.out _ h h2
          · have := (OwnG.at HP3.out _ h2).2; omega)
        have HS9 : Hid (b + 1 ≤ w9.heap.size ∧ w.grownBy w9 none) := Lib.hid ⟨by have := HB9.out.size; have := HSA.out; omega, below_gb (Below.trans2 (Below.gb HGA.out (Nat.le_refl _)) (HB9.out.mono (by rw [HBW.out]; omega)))⟩
        clear hO9 hg9 hl9 e0 e1 e2 HO3 HP3 HX3 HB3 HSE3 HHO HOL
        obtain ⟨e0, e1, e2, e3⟩ := cells3 HX9.out
        go_wp2_with fail
        refine (HAB.out _ HS9.out.1 HP9.out HS9.out.2).mono ?_
        rintro e w5 ⟨v', rfl, hv', hf', hs'⟩
        have HO5 : Hid (OwnL w5 (b + 1) (.slice (some ⟨g9, 0, none⟩) (O.length + 1) cap9) (O ++ [xt])) := Lib.hid (OwnG.keptF HO9.out hf' (fun k e h => HSE9.out k e h.symm))
        have HV5 : Hid (OwnL w5 (b + 1) v' (S' ++ x.kids.reverse)) := Lib.hid hv'
        have HSE5 : Hid (Sep (.slice (some ⟨g9, 0, none⟩) (O.length + 1) cap9) v') := Lib.hid (fun k h1 h2 => by
          rcases hs' k h2 with h | h
          · exact HSE9.out k h1 h
          · have := (OwnG.at HO9.out k h1).2; omega)
        have HB5 : Hid (Below (b + 1) W1 w5) := Lib.hid (Below.trans2 HB9.out (hf'.below (by have := HB9.out.size; have := HSA.out; omega) (fun k h => HPB3.out k h.symm)))
        clear hv' hf' hs' HO9 HSE9 HB9 HP9 HAB
        go_wp2_with fail
        go_roundw
        case rel => exact ⟨O ++ [xt], S' ++ x.kids.reverse, HO5, HV5, HSE5, Lib.hid (by have h := HR.out; rw [H19.out.1, HXT.out] at h; rw [H19.out.2.1]; simpa using h), HIN2, Lib.hid (by have := HSZ.out; rw [H19.out.2.2] at this; rw [H19.out.2.1]; simp; omega), HB5⟩
        case measure =>
          show szL N (readInts w5 v') < szL N (readInts wr (.slice (some ⟨gs, os, none⟩) q1 c))
          rw [readInts_own HV5.out, HRD.out]
          rw [H19.out.2.1, H19.out.2.2]; simp
      · have d4 : (xk == 19) = false := beq_eq_false_iff_ne.2 h19
        have HND := Lib.hid (node_step HFO.out (S := S') (k := (kn : Int)) HX.out (fun h => h19 (HXK.out.symm.trans h)))
        have HO9 := HO3
        have HP9 := HP3
        have HSE9 := HSE3
        have HB9 := HB3
        have HS9 : Hid (b + 1 ≤ W3.heap.size ∧ w.grownBy W3 none) := Lib.hid ⟨hb3, below_gb (Below.trans2 (Below.gb HGA.out (Nat.le_refl _)) (HB9.out.mono (by rw [HBW.out]; omega)))⟩
        clear HO3 HP3 HSE3 HB3
        go_wp2_with fail
        refine (HAB.out _ HS9.out.1 HP9.out HS9.out.2).mono ?_
        rintro e w5 ⟨v', rfl, hv', hf', hs'⟩
        have HO5 : Hid (OwnL w5 (b + 1) u5 (O)) := Lib.hid (OwnG.keptF HO9.out hf' (fun k e h => HSE9.out k e h.symm))
        have HV5 : Hid (OwnL w5 (b + 1) v' (S' ++ x.kids.reverse)) := Lib.hid hv'
        have HSE5 : Hid (Sep u5 v') := Lib.hid (fun k h1 h2 => by
          rcases hs' k h2 with h | h
          · exact HSE9.out k h1 h
          · have := (OwnG.at HO9.out k h1).2; omega)
        have HB5 : Hid (Below (b + 1) W1 w5) := Lib.hid (Below.trans2 HB9.out (hf'.below (by have := HB9.out.size; have := HSA.out; omega) (fun k h => HPB3.out k h.symm)))
        clear hv' hf' hs' HO9 HSE9 HB9 HP9 HAB
        go_wp2_with fail
        go_roundw
        case rel => exact ⟨O, S' ++ x.kids.reverse, HO5, HV5, HSE5, Lib.hid (by have h := HR.out; rw [HND.out.1] at h; exact h), HIN2, Lib.hid (by have := HSZ.out; rw [HND.out.2] at this; omega), HB5⟩
        case measure =>
          show szL N (readInts w5 v') < szL N (readInts wr (.slice (some ⟨gs, os, none⟩) q1 c))
          rw [readInts_own HV5.out, HRD.out]
          rw [HND.out.2]; omega
end Go.Proofs.YthclkbaankjbiaaGreatDoor
