/- The law on cuts, walked. -/
import Derived.Test.YtgffaldoieakaaaSPick
import Derived.Test.YtgffaldoieakaaaSMath3
import Derived.Deep.RegionLaw
namespace Go.Proofs.Ytgffaldoieakaaa
open Go.RowKit

theorem elemRS : (Try.prog.info? 54).map (fun i => (i.zero, i.size, i.bytes)) = some (some (.agg #[.int .i64 0, .int .i64 0]), 2, 16) := by kernel_rfl
theorem elemE : (Try.prog.info? 56).map (fun i => (i.zero, i.size, i.bytes)) = some (some (.agg #[.int .i64 0, .string ⟨#[]⟩]), 2, 24) := by kernel_rfl

/-- append of one pair, at a step of a region that draws its order. -/
theorem step_appQ {t T : TypeId} {z : Value} {by' : Nat} (ht : Try.prog.underlying t = some (.slice T)) (hT : (Try.prog.info? T).map (fun i => (i.zero, i.size, i.bytes)) = some (some z, 2, by')) (hz : z.cells.size = 2) (hby : by' ≤ 32)
    {W : World} {ops : Array Oper} {o : Oper} {a : Act} {K : Act → World → Prop} {Q : Exit → Act → World → Prop} {E : Prop} (hgd : o.guard = none) (s x : Operand) (ho : o.op = .call { callee := .builtin .append, args := #[s, x], argTypes := #[t, t] })
    (base : Nat) (l : List (Value × Value)) (y1 y2 : Value) (h1 : y1.oneCell' = true) (h2 : y2.oneCell' = true) (v : Value) (hs : a.eval s = v) (hown : OwnQ T W base v l) (H : Nat) (hblk : W.heap[H]? = some (.cells #[y1, y2] T (0, 0))) (hx : a.eval x = .slice (some ⟨H, 0, none⟩) 1 1) (hn : l.length ≤ 1000000) (hbase : base ≤ W.heap.size)
    (K' : ∀ g' cap' w', OwnQ T w' base (.slice (some ⟨g', 0, none⟩) (l.length + 1) cap') (l ++ [(y1, y2)]) → Below base W w' → W.grownBy w' v.ownBlock → K (a.put o.dst (.slice (some ⟨g', 0, none⟩) (l.length + 1) cap')) w') :
    if Region.wanted o (yielded ops a.tmps) = true then Oper.wp Try.prog o a W K Q else E := by
  obtain ⟨i0, hi, hi0, hi1, hi2⟩ := info_parts hT
  have hb : (l.length + 1) * by' ≤ 140737488355328 := by
    have : (l.length + 1) * by' ≤ (l.length + 1) * 32 := Nat.mul_le_mul_left _ hby
    omega
  refine step_append_lies (P := Try.prog) W hgd s x t ho base T i0 z 2 by' ht hi hi0 hi1 hi2 hz (by decide) v l.length (cellsQ l) hs hown ⟨H, 0, none⟩ 1 1 [y1, y2] hx rfl ?_ ?_ (by omega) (by unfold maxLen; omega) hb hbase W.heap.size rfl ?_
  · intro j u hj
    rw [Addr.add_lit, cell_of_row _ H _ _ _ (0, 0) hblk]
    match j, hj with
    | 0, hj => simp at hj; subst hj; rfl
    | 1, hj => simp at hj; subst hj; rfl
  · intro u hu; simp at hu; rcases hu with rfl | rfl
    · exact h1
    · exact h2
  · intro g' cap' w' h3 h4 h5 _
    exact K' g' cap' w' (by simpa [OwnQ, cellsQ_append, cellsQ] using h3) (below_own hown hbase h4) h4

theorem OwnQ.ne {T T' : TypeId} {w : World} {base b : Nat} {v : Value} {l : List (Value × Value)} {cs : Array Value} (h : OwnQ T w base v l) (hb : w.heap[b]? = some (.cells cs T' (0, 0))) (hT : T' ≠ T) : v.ownBlock ≠ some b := by
  rcases h.2 with ⟨rfl, -⟩ | ⟨g, cap, cur, rfl, -, hg, -⟩
  · simp [Value.ownBlock]
  · intro e
    simp only [Value.ownBlock, Option.some.injEq] at e
    subst e
    rw [hg] at hb
    simp at hb
    exact hT hb.2.symm

theorem goneI_take {l : List Sp} (h : ∀ e ∈ l, e.1 < e.2) (k : Nat) : 0 ≤ goneI (l.take k) ∧ goneI (l.take k) ≤ goneI l := by
  have pos : ∀ l : List Sp, (∀ e ∈ l, e.1 < e.2) → 0 ≤ goneI l := by
    intro l
    induction l with
    | nil => intro _; simp [goneI]
    | cons a l ih =>
      intro hh
      have h1 := ih (fun e he => hh e (List.mem_cons_of_mem _ he))
      have h2 := hh a (List.mem_cons_self ..)
      rw [goneI_cons]; omega
  have h1 := pos (l.take k) (fun e he => h e (List.mem_of_mem_take he))
  have h2 := pos (l.drop k) (fun e he => h e (List.mem_of_mem_drop he))
  have h3 : goneI l = goneI (l.take k) + goneI (l.drop k) := by
    unfold goneI
    rw [← List.sum_append, ← List.map_append, List.take_append_drop]
  omega

set_option maxRecDepth 100000 in
set_option maxHeartbeats 16000000 in
theorem cuts_yes (s : ByteArray) (p : Option Addr) (m c : Nat) (l : List Sp) (w : World) (hs : s.size ≤ 300) (hm : l.length = m) (hl : m ≤ 20) (hmc : m ≤ c) (h : QAt w p (l.map spI)) :
    Calls Try.prog 6 #[.string s, .slice p m c] w (ValPost (.bool true) w) := by
  obtain ⟨n, hsz⟩ : ∃ n, s.size = n := ⟨_, rfl⟩
  have HSZ := Lib.hid hsz
  rw [hsz] at hs
  have d1 : decide ((300 : Int) < n) = false := decide_eq_false (by omega)
  have d1' : decide (300 < n) = false := decide_eq_false (by omega)
  have d2 : decide ((20 : Int) < m) = false := decide_eq_false (by omega)
  have d2' : decide (20 < m) = false := decide_eq_false (by omega)
  have HA := Lib.hid h; have HM := Lib.hid hm
  clear h hm
  go_enter Try.func6, Try.ntmps6
  go_wp2_with fail
  refine (anchor_c _).mono ?_
  rintro e w0 ⟨rfl, hg0⟩
  have HG0 := Lib.hid hg0
  clear hg0
  go_wp2_with fail
  go_loopw [5, 31] (fun v i wr => ∃ k : Nat, k ≤ m ∧ i = .int .i64 k ∧ Hid (OwnQ 54 wr w.heap.size v ((l.take k).map spI)) ∧ Hid (w.grownBy wr none)) (fun _ i _ => m - (intOf i).toNat)
  case atStart => exact ⟨0, by omega, rfl, Lib.hid (OwnQ.nil _ _ _), HG0⟩
  case round =>
    clear HG0
    obtain ⟨k, hk, rfl, HOW, HG⟩ := hrel
    by_cases hlt : k < m
    · obtain ⟨⟨fr, to⟩, he⟩ : ∃ e, l[k]? = some e := ⟨l[k]'(by rw [HM.out]; exact hlt), List.getElem?_eq_getElem _⟩
      obtain ⟨g, off, rfl, hgl, hc⟩ := HA.out.resolve_left (fun h => by have h1 := HM.out; simp at h; rw [h] at h1; simp at h1; omega)
      obtain ⟨c0, c1⟩ := hc k (.int .i64 fr, .int .i64 to) (by rw [List.getElem?_map, he]; rfl)
      have c0 := HG.out.cell c0 (by simp)
      have c1 := HG.out.cell c1 (by simp)
      have htk : (l.take (k + 1)).map spI = (l.take k).map spI ++ [(.int .i64 fr, .int .i64 to)] := by rw [List.take_add_one, he]; simp [spI]
      have hln : ((l.take k).map spI).length ≤ 1000000 := by simp; omega
      obtain ⟨LK, hLK⟩ : ∃ LK, (l.take k).map spI = LK := ⟨_, rfl⟩
      rw [hLK] at HOW htk hln
      have HTK := Lib.hid htk; have HLN := Lib.hid hln
      clear htk hln hLK
      have HBX := Lib.hid (heap_alloc_new wr (.cells #[.int .i64 fr, .int .i64 to] 53))
      have hga := World.grownBy_alloc wr (.cells #[.int .i64 fr, .int .i64 to] 53) none
      have HO := Lib.hid (HOW.out.kept hga); have HG2 := Lib.hid (gb_trans HG.out hga)
      obtain ⟨b0, b1, b2⟩ := cells2 HBX.out
      clear hc hgl he hga b2
      go_wp2_with (at_builtin; go_loud (refine wpList_appQ (t := 46) (T := 54) Try.underlying46 elemRS rfl (by omega) rfl _ _ rfl w.heap.size LK (.int .i64 fr) (.int .i64 to) rfl rfl u5 rfl HO.out (wr.heap.size + 1) (by simp) rfl HLN.out HG2.out.size ?_))
      intro g' cap' w3 hO3 hB3 _
      have HO3 := Lib.hid (show OwnQ 54 w3 w.heap.size _ ((l.take (k + 1)).map spI) from by rw [HTK.out]; exact hO3); have HG3 : Hid (w.grownBy w3 none) := Lib.hid (below_gb (Below.trans2 (gb_below HG2.out) hB3))
      clear hO3 hB3
      go_wp2_with fail
      go_roundw
      case rel => exact ⟨k + 1, by omega, by go_num, HO3, HG3⟩
      case measure => simp [intOf]; omega
    · obtain rfl : k = m := by omega
      rw [List.take_of_length_le (by rw [HM.out]; exact Nat.le_refl _)] at HOW
      obtain ⟨q, c', hq, hqa, -⟩ := HOW.out.is
      rw [List.length_map, HM.out] at hq
      subst hq
      have hw' := Within_c s q c' l
      have hc' := Cut_c s p c l
      have hp' := Pick_c s p c l
      rw [HM.out, HSZ.out] at hw' hc' hp'
      have HC := Lib.hid (hc' wr (by omega) (by omega) (HA.out.kept HG.out))
      have HP := Lib.hid (fun (W : World) (hg : wr.grownBy W none) => hp' W (by omega) (by omega) (HA.out.kept (gb_trans HG.out hg)))
      have HW := Lib.hid (fun (W : World) (hg : wr.grownBy W none) => hw' W (by omega) (by omega) (hqa.kept hg))
      clear hw' hc' hp' hqa d1 d1' d2 d2'
      go_wp2_with fail
      refine HC.out.mono ?_
      rintro e w2 ⟨hg2, hcut⟩
      have HG2 := Lib.hid hg2
      rw [HSZ.out] at hcut
      cases hr : withinE n 0 l with
      | false =>
        rw [hr, if_neg (by simp)] at hcut
        subst hcut
        clear hg2
        go_wp2_with fail
        refine (HP.out w2 HG2.out).mono ?_
        rintro e w3 ⟨hg3, hpk⟩
        rw [HSZ.out, hr, if_neg (by simp)] at hpk
        subst hpk
        have HG3 := Lib.hid (gb_trans HG2.out hg3)
        have HWW := Lib.hid (HW.out w3 HG3.out)
        rw [hr] at HWW
        clear hg3 hr
        go_wp2_with fail
        refine HWW.out.mono ?_
        rintro e w4 ⟨rfl, hg4⟩
        have HG4 := Lib.hid (gb_trans HG.out (gb_trans HG3.out hg4))
        clear hg4
        go_wp2_with fail
        go_ret
        exact ⟨rfl, HG4.out⟩
      | true =>
        rw [hr, if_pos rfl] at hcut
        subst hcut
        clear hg2
        go_wp2_with fail
        refine (HP.out w2 HG2.out).mono ?_
        rintro e w3 ⟨hg3, hpk⟩
        rw [HSZ.out, hr, if_pos rfl, HM.out] at hpk
        obtain ⟨qt, ct, rfl, hot⟩ := hpk
        have HG3 := Lib.hid (gb_trans HG2.out hg3)
        have HWW := Lib.hid (HW.out w3 HG3.out)
        rw [hr] at HWW
        have HR := Lib.hid hr; have HOT := Lib.hid hot
        clear hg3 hr hot
        go_wp2_with fail
        refine HWW.out.mono ?_
        rintro e w4 ⟨rfl, hg4⟩
        have HG4 := Lib.hid (gb_trans HG.out (gb_trans HG3.out hg4))
        obtain ⟨qt2, ct2, hqt, hvt, -⟩ := (HOT.out.kept hg4).is
        injection hqt with e1 e2 e3
        subst e1; subst e3
        have HVT := Lib.hid hvt
        obtain ⟨hpw, hbd⟩ := withinE_all (by omega) HR.out
        have HBD := Lib.hid hbd
        obtain ⟨R, hR⟩ : ∃ R : ByteArray, (⟨(cutL s.data.toList l).toArray⟩ : ByteArray) = R := ⟨_, rfl⟩
        obtain ⟨k1, k2, k3⟩ := back_all s R l (by rw [HSZ.out]; omega) (by rw [HSZ.out]; exact HR.out) (by rw [← hR])
        rw [hR]
        have HK1 := Lib.hid k1; have HK2 := Lib.hid k2; have HK3 := Lib.hid k3
        have nn : ((k : Int) != (k : Int)) = false := by simp
        clear hg4 hvt hpw hbd k1 k2 k3 hR HP HW HWW HC e2
        go_wp2_with fail
        go_loopw [12, 13, 86] (fun v gv i wr => ∃ (j : Nat) (gg : Int), j ≤ k ∧ i = .int .i64 j ∧ gv = .int .i64 gg ∧ Hid (gg = goneI (l.take j)) ∧ Hid (OwnQ 56 wr w4.heap.size v ((backGo s 0 (l.take j)).map edV)) ∧ Hid (w4.grownBy wr none)) (fun _ _ i _ => k - (intOf i).toNat)
        case atStart => exact ⟨0, 0, by omega, rfl, rfl, Lib.hid rfl, Lib.hid (OwnQ.nil _ _ _), gb_refl _ _⟩
        case round =>
          obtain ⟨j, gg, hj, rfl, rfl, HGG, HOB, HGB⟩ := hrel
          have hgt := goneI_take (l := l) (fun e he => (HBD.out e he).2.2.1) j
          rw [← HGG.out] at hgt
          have hgn : goneI l ≤ n := by have := within_rem (a := 0) (by omega) (by omega) HR.out; omega
          have hg0 : 0 ≤ gg := hgt.1
          have hg3 : gg ≤ 300 := by omega
          by_cases hlt2 : j < k
          · obtain ⟨⟨fr, to⟩, he⟩ : ∃ e, l[j]? = some e := ⟨l[j]'(by rw [HM.out]; exact hlt2), List.getElem?_eq_getElem _⟩
            obtain ⟨g, off, rfl, hgl, hc⟩ := HA.out.resolve_left (fun h => by have h1 := HM.out; simp at h; rw [h] at h1; simp at h1; omega)
            obtain ⟨c0, c1⟩ := hc j (.int .i64 fr, .int .i64 to) (by rw [List.getElem?_map, he]; rfl)
            have c0 := (gb_trans HG4.out HGB.out).cell c0 (by simp)
            have c1 := (gb_trans HG4.out HGB.out).cell c1 (by simp)
            obtain ⟨tx, htx⟩ : ∃ tx, s.extract fr.toNat to.toNat = tx := ⟨_, rfl⟩
            obtain ⟨gq, oq, rfl, hql, hqc⟩ := HVT.out.resolve_left (fun h => by have h1 := HM.out; simp [pickB] at h; rw [h] at h1; simp at h1; omega)
            have ct := hqc j (.string tx) (by rw [List.getElem?_map]; unfold pickB; rw [List.getElem?_map, he, ← htx]; rfl)
            have ct := HGB.out.cell ct (by simp)
            have hmem := HBD.out _ (List.mem_of_getElem? he)
            simp only at hmem
            have hfr0 : 0 ≤ fr := by omega
            have hfr3 : fr < to := by omega
            have hto : to ≤ 300 := by omega
            have hw1 : IntKind.i64.wrap (fr - gg) = fr - gg := IntWalk.i64_in _ (by omega)
            have htk : l.take (j + 1) = l.take j ++ [(fr, to)] := by rw [List.take_add_one, he]; rfl
            have htk2 : (backGo s 0 (l.take (j + 1))).map edV = (backGo s 0 (l.take j)).map edV ++ [(.int .i64 (fr - gg), .string tx)] := by
              rw [htk, backGo_snoc, HGG.out, ← htx, Int.zero_add]; simp [edV]
            have hln : ((backGo s 0 (l.take j)).map edV).length ≤ 1000000 := by rw [List.length_map, backGo_len]; simp; omega
            obtain ⟨LK, hLK⟩ : ∃ LK, (backGo s 0 (l.take j)).map edV = LK := ⟨_, rfl⟩
            rw [hLK] at HOB htk2 hln
            have HTK := Lib.hid htk2; have HLN := Lib.hid hln
            have HGG2 : Hid (gg + (to - fr) = goneI (l.take (j + 1))) := Lib.hid (by rw [htk, goneI_snoc, HGG.out])
            have HBX := Lib.hid (heap_alloc_new wr (.cells #[.int .i64 fr, .int .i64 to] 53))
            have hga := World.grownBy_alloc wr (.cells #[.int .i64 fr, .int .i64 to] 53) none
            have HO := Lib.hid (HOB.out.kept hga); have HG5 := Lib.hid (gb_trans HGB.out hga)
            have ct2 := hga.cell ct (by simp)
            obtain ⟨b0, b1, b2⟩ := cells2 HBX.out
            clear hc hgl he b2 hql hqc htk hgt hgn hmem htx htk2 hln hLK
            go_wp2_with fail
            generalize wr.alloc (.cells #[.int .i64 fr, .int .i64 to] 53) = W1 at *
            obtain ⟨hx, hxe⟩ : ∃ hx, W1.heap.size = hx := ⟨_, rfl⟩
            have hgb := World.grownBy_alloc W1 (.cells #[.int .i64 (fr - gg), .string tx] 56) none
            have hnew := heap_alloc_new W1 (.cells #[.int .i64 (fr - gg), .string tx] 56)
            rw [hxe] at hnew
            have HNEW := Lib.hid hnew; have HHX := Lib.hid hxe
            have HO5 := Lib.hid (HO.out.kept hgb); have HG6 := Lib.hid (gb_trans HG5.out hgb)
            have HBX6 := Lib.hid (bx hgb HBX.out)
            have hct := hgb.cell ct2 (by simp)
            have hb0 := hgb.cell b0 (by simp)
            have hb1 := hgb.cell b1 (by simp)
            clear hgb hnew
            go_region_law (refine step_appQ (t := 38) (T := 56) Try.underlying38 elemE rfl (by omega) rfl _ _ rfl w4.heap.size LK (.int .i64 (fr - gg)) (.string tx) rfl rfl u12 rfl (HO5.out.kept (gb_drew (gb_refl _ _))) hx HNEW.out rfl HLN.out HG6.out.size ?_; intro g9 cap9 w9 hO9 hB9 hF9; have HO9 := Lib.hid hO9; have HB9 := Lib.hid hB9; have HF9 := Lib.hid hF9; clear hO9 hB9 hF9)
            all_goals
              have hbx9 : w9.heap[wr.heap.size]? = some (.cells #[.int .i64 fr, .int .i64 to] 53 (0, 0)) :=
                (HF9.out.block _ (hlt' HBX6.out) (fun e => HO5.out.ne HBX6.out (by decide) e.symm)).trans HBX6.out
              obtain ⟨e0, e1, e2⟩ := cells2 hbx9
              have HO10 := Lib.hid (show OwnQ 56 w9 w4.heap.size _ ((backGo s 0 (l.take (j + 1))).map edV) from by rw [HTK.out]; exact HO9.out)
              have HG10 : Hid (w4.grownBy w9 none) := Lib.hid (below_gb (Below.trans2 (gb_below (gb_drew HG6.out)) HB9.out))
              clear hbx9 e2 hct hb0 hb1 b0 b1 c0 c1 ct ct2
              go_wp2_with fail
              go_roundw
              case rel => exact ⟨j + 1, gg + (to - fr), by omega, by go_num, by first | rfl | go_num, HGG2, HO10, HG10⟩
              case measure => simp [intOf]; omega
          · obtain rfl : j = k := by omega
            rw [List.take_of_length_le (by rw [HM.out]; exact Nat.le_refl _)] at HGG HOB
            obtain ⟨qb, cb, hqb, hqba, -⟩ := HOB.out.is
            rw [List.length_map, backGo_len, HM.out] at hqb
            subst hqb
            have hput := Put_c R qb cb (backGo s 0 l) wr
            rw [backGo_len, HM.out] at hput
            have hRs : (R.size : Int) = n - gg := by rw [HK3.out, HSZ.out, HGG.out]
            have HPUT := Lib.hid (hput (by omega) (by omega) hqba)
            have HRS := Lib.hid hRs
            obtain ⟨rs, hrs⟩ : ∃ rs, R.size = rs := ⟨_, rfl⟩
            have hrs2 : ((rs : Int) == (n : Int) - gg) = true := by rw [← hRs, hrs]; simp
            have hw5 : IntKind.i64.wrap ((n : Int) - gg) = (n : Int) - gg := IntWalk.i64_in _ (by omega)
            have htt : (s.toList == s.toList) = true := by simp
            clear hput hqba hRs hgt hgn
            go_wp2_with fail
            refine HPUT.out.mono ?_
            rintro e w9 ⟨hg9, hp9⟩
            rw [HK1.out, if_pos rfl] at hp9
            obtain ⟨q9, c9, rfl, -⟩ := hp9
            have HFIN := Lib.hid (gb_trans HG4.out (gb_trans HGB.out hg9))
            have hss : (⟨(putL R.data.toList (backGo s 0 l)).toArray⟩ : ByteArray) = s := by rw [HK2.out]
            rw [hss]
            clear hg9 hss HPUT
            go_wp2_with fail
            go_ret
            exact ⟨rfl, HFIN.out⟩

set_option maxRecDepth 100000 in
set_option maxHeartbeats 2000000 in
theorem cuts_c (s : ByteArray) (p : Option Addr) (m c : Nat) (l : List Sp) (w : World) (hs : s.size < 9223372036854775808) (hm : l.length = m) (hmc : m ≤ c) (hml : m < 9223372036854775808) (h : QAt w p (l.map spI)) :
    Calls Try.prog 6 #[.string s, .slice p m c] w (ValPost (.bool true) w) := by
  by_cases h1 : 300 < s.size
  · obtain ⟨n, hsz⟩ : ∃ n, s.size = n := ⟨_, rfl⟩
    rw [hsz] at h1 hs
    have d1 : decide ((300 : Int) < n) = true := decide_eq_true (by omega)
    have d1' : decide (300 < n) = true := decide_eq_true h1
    clear h hm
    go_enter Try.func6, Try.ntmps6
    go_wp2_with fail
    refine (anchor_c _).mono ?_
    rintro e w0 ⟨rfl, hg0⟩
    have HG0 := Lib.hid hg0
    clear hg0
    go_wp2_with fail
    go_ret
    exact ⟨rfl, HG0.out⟩
  by_cases h2 : 20 < m
  · obtain ⟨n, hsz⟩ : ∃ n, s.size = n := ⟨_, rfl⟩
    rw [hsz] at h1 hs
    have d1 : decide ((300 : Int) < n) = false := decide_eq_false (by omega)
    have d1' : decide (300 < n) = false := decide_eq_false h1
    have d2 : decide ((20 : Int) < m) = true := decide_eq_true (by omega)
    have d2' : decide (20 < m) = true := decide_eq_true h2
    clear h hm
    go_enter Try.func6, Try.ntmps6
    go_wp2_with fail
    refine (anchor_c _).mono ?_
    rintro e w0 ⟨rfl, hg0⟩
    have HG0 := Lib.hid hg0
    clear hg0
    go_wp2_with fail
    go_ret
    exact ⟨rfl, HG0.out⟩
  exact cuts_yes s p m c l w (by omega) hm (by omega) hmc h
end Go.Proofs.Ytgffaldoieakaaa
