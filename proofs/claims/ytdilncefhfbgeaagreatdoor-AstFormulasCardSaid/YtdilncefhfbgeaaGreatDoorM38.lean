/- The dump of the document's own expressions. -/
import Derived.Deep.DeepCutAuto
import Derived.Test.YtdilncefhfbgeaaGreatDoorM37
import Derived.Handy
set_option linter.unusedVariables false
set_option linter.unusedSimpArgs false
namespace Go.Proofs.YtdilncefhfbgeaaGreatDoor
open Go.RowKit

theorem dmpK_next : ∀ {l : List Ex} {j : Nat} {k : Ex}, l[j]? = some k → dmpK (l.take (j + 1)) = dmpK (l.take j) ++ 32 :: dmpE k
  | [], j, k, h => by simp at h
  | y :: l, 0, k, h => by simp at h; subst h; simp [dmpK]
  | y :: l, j + 1, k, h => by
    have h2 := dmpK_next (l := l) (j := j) (k := k) (by simpa using h)
    rw [List.take_succ_cons, List.take_succ_cons]; simp only [dmpK]; rw [h2]; simp
theorem dmpK_len_take : ∀ (l : List Ex) (j : Nat), (dmpK (l.take j)).length ≤ (dmpK l).length
  | [], j => by simp
  | y :: l, 0 => by simp [dmpK]
  | y :: l, j + 1 => by
    have := dmpK_len_take l j
    rw [List.take_succ_cons]; simp only [dmpK, List.length_append, List.length_cons]; omega
theorem dmpE_pos (x : Ex) : 1 ≤ (dmpE x).length := by cases x; simp only [dmpE, List.length_append, List.length_cons]; omega
theorem len_dmpK : ∀ l : List Ex, l.length ≤ (dmpK l).length
  | [] => Nat.zero_le _
  | k :: l => by have := len_dmpK l; have := dmpE_pos k; simp only [dmpK, List.length_cons, List.length_append]; omega

set_option maxRecDepth 100000 in
set_option maxHeartbeats 16000000 in
theorem rdump_c : ∀ (n : Nat) (x : Ex), sizE x ≤ n → ∀ (F : Nat → Prop) (q : List Value) (w : World), RAt F w x q → allS x → (dmpE x).length ≤ 1000000 →
    Calls Tryz.prog 31 #[.agg q.toArray] w (StrGb (dmpE x) w) := by
  intro n
  induction n with
  | zero => intro x hn; cases x; simp [sizE] at hn
  | succ n ih =>
    intro x hn F q w hx hs hl
    cases x with
    | mk op nm md nu ys ks ps =>
      simp only [RAt] at hx
      obtain ⟨pk, ck, rows, rfl, hg, hls, -⟩ := hx
      simp only [allS] at hs
      obtain ⟨⟨s1, s2, s3, s4⟩, hks⟩ := hs
      obtain ⟨y, hy⟩ : ∃ y : ByteArray, (⟨nm.toArray⟩ : ByteArray) = y := ⟨_, rfl⟩
      obtain ⟨z, hz⟩ : ∃ z : ByteArray, (⟨md.toArray⟩ : ByteArray) = z := ⟨_, rfl⟩
      obtain ⟨u, hu⟩ : ∃ u : ByteArray, (⟨nu.toArray⟩ : ByteArray) = u := ⟨_, rfl⟩
      unfold strV
      rw [hy, hz, hu]
      have hyl : y.data.toList = nm := by rw [← hy]
      have hzl : z.data.toList = md := by rw [← hz]
      have hul : u.data.toList = nu := by rw [← hu]
      have y1 : y.size ≤ 1000000 := by rw [sz_list hyl]; omega
      have z1 : z.size ≤ 1000000 := by rw [sz_list hzl]; omega
      have u1 : u.size ≤ 1000000 := by rw [sz_list hul]; omega
      have HYL := Lib.hid hyl; have HZL := Lib.hid hzl; have HUL := Lib.hid hul
      have hze : z.toList.isEmpty = decide (md = []) := by
        rw [toList_data, HZL.out]; cases md <;> simp
      have hye : y.toList.isEmpty = decide (nm = []) := by
        rw [toList_data, HYL.out]; cases nm <;> simp
      obtain ⟨kl, hkl⟩ : ∃ kl, ks.length = kl := ⟨_, rfl⟩
      have HKL := Lib.hid hkl
      have HG := Lib.hid hg; have HLS := Lib.hid hls; have HN := Lib.hid hn; have HL := Lib.hid hl; have IH := Lib.hid ih
      have HKS := Lib.hid hks
      have hkb : kl ≤ 1000000 := by
        have h1 := len_dmpK ks
        simp only [dmpE, List.length_append] at hl
        omega
      obtain ⟨D, hD⟩ : ∃ D, dmpE (Ex.mk op nm md nu ys ks ps) = D := ⟨_, rfl⟩
      have HD := Lib.hid hD
      have HDG := Lib.hid (fun W => digits_c op s1 W)
      rw [hkl, hD]
      clear hg hls hn hl ih hkl hD hks hy hz hu hyl hzl hul s2 s3 s4
      go_enter Tryz.func31, Tryz.ntmps31
      go_wp2_with fail
      have hgA := World.grownBy_alloc w (.cells #[.int .i64 (op : Int), .string y, .string z, .string u, .bool ys, .slice pk kl ck, .int .i64 (ps : Int)] 68) none
      have hsA : (w.alloc (.cells #[.int .i64 (op : Int), .string y, .string z, .string u, .bool ys, .slice pk kl ck, .int .i64 (ps : Int)] 68)).heap.size = w.heap.size + 1 := by simp
      have hA := heap_alloc_new w (.cells #[.int .i64 (op : Int), .string y, .string z, .string u, .bool ys, .slice pk kl ck, .int .i64 (ps : Int)] 68)
      generalize (w.alloc (.cells #[.int .i64 (op : Int), .string y, .string z, .string u, .bool ys, .slice pk kl ck, .int .i64 (ps : Int)] 68)) = WA at *
      obtain ⟨b, hb⟩ : ∃ b, w.heap.size = b := ⟨_, rfl⟩
      rw [hb] at hA hsA ⊢
      refine (HDG.out WA).mono ?_
      rintro e W ⟨hg0, he⟩
      obtain ⟨dg, hdg⟩ : ∃ dg : ByteArray, (⟨(decN op).toArray⟩ : ByteArray) = dg := ⟨_, rfl⟩
      have hdgl : dg.data.toList = decN op := by rw [← hdg]
      rw [hdg] at he
      subst he
      have hdgs : dg.size ≤ 2 := by rw [sz_list hdgl]; unfold decN; split <;> simp
      have HDGL := Lib.hid hdgl
      have HBA := Lib.hid (bx hg0 hA)
      have HGW := Lib.hid (gb_trans hgA hg0)
      have hbw : b < W.heap.size := hlt' (bx hg0 hA)
      have e0 : W.cell? ⟨b, 0, none⟩ = some (.int .i64 (op : Int)) := by rw [cell_of_row W b 0 _ _ (0, 0) HBA.out]; rfl
      have e1 : W.cell? ⟨b, 1, none⟩ = some (.string y) := by rw [cell_of_row W b 1 _ _ (0, 0) HBA.out]; rfl
      have e2 : W.cell? ⟨b, 2, none⟩ = some (.string z) := by rw [cell_of_row W b 2 _ _ (0, 0) HBA.out]; rfl
      have e3 : W.cell? ⟨b, 3, none⟩ = some (.string u) := by rw [cell_of_row W b 3 _ _ (0, 0) HBA.out]; rfl
      have e4 : W.cell? ⟨b, 4, none⟩ = some (.bool ys) := by rw [cell_of_row W b 4 _ _ (0, 0) HBA.out]; rfl
      have e5 : W.cell? ⟨b, 5, none⟩ = some (.slice pk kl ck) := by rw [cell_of_row W b 5 _ _ (0, 0) HBA.out]; rfl
      clear hgA hsA hA hb hg0 hdg hdgl HDG
      go_upto_if 11 with fail
      go_cut [3] (fun t3 wx => (∃ s : ByteArray, t3 = .string s ∧ Hid (s.data.toList = 91 :: decN op ++ nmE (.mk op nm md nu ys ks ps))) ∧ wx = W)
      case first =>
        by_cases hm : md = []
        · have f1 : (!decide (md = [])) = false := by simp [hm]
          by_cases hn0 : nm = []
          · have f2 : (!decide (nm = [])) = false := by simp [hn0]
            have HNM : Hid (nmE (.mk op nm md nu ys ks ps) = []) := Lib.hid (by simp [nmE, hm, hn0])
            clear hm hn0
            go_wp2_with fail
            all_goals
              first
                | (exfalso; exact absurd (f1.symm.trans (by assumption : (!decide (md = [])) = true)) (by decide))
                | (exfalso; exact absurd (f1.symm.trans (by assumption : (!decide (md = [])) = false)) (by decide))
                | (go_meet; exact ⟨⟨_, rfl, Lib.hid (by simp [app_list, HDGL.out, HNM.out])⟩, rfl⟩)
          · have f2 : (!decide (nm = [])) = true := by simp [hn0]
            have HNM : Hid (nmE (.mk op nm md nu ys ks ps) = 32 :: nm) := Lib.hid (by simp [nmE, hm, hn0])
            clear hm hn0
            go_wp2_with fail
            all_goals
              first
                | (exfalso; exact absurd (f1.symm.trans (by assumption : (!decide (md = [])) = true)) (by decide))
                | (exfalso; exact absurd (f1.symm.trans (by assumption : (!decide (md = [])) = false)) (by decide))
                | (go_meet; exact ⟨⟨_, rfl, Lib.hid (by simp [app_list, HDGL.out, HNM.out, HYL.out])⟩, rfl⟩)
        · have f1 : (!decide (md = [])) = true := by simp [hm]
          have HNM : Hid (nmE (.mk op nm md nu ys ks ps) = 32 :: (md ++ 46 :: nm)) := Lib.hid (by simp [nmE, hm])
          clear hm
          go_wp2_with fail
          all_goals
            first
              | (exfalso; exact absurd (f1.symm.trans (by assumption : (!decide (md = [])) = true)) (by decide))
              | (exfalso; exact absurd (f1.symm.trans (by assumption : (!decide (md = [])) = false)) (by decide))
              | (go_meet; exact ⟨⟨_, rfl, Lib.hid (by simp [app_list, HDGL.out, HNM.out, HYL.out, HZL.out])⟩, rfl⟩)
      case rest =>
        obtain ⟨⟨s, rfl, HS⟩, rfl⟩ := hcut
        clear hze hye hdgs HDGL e1 e2 HYL HZL y1 z1
        have HDT : Hid (D = 91 :: decN op ++ nmE (.mk op nm md nu ys ks ps) ++ tailE (.mk op nm md nu ys ks ps) ++ dmpK ks ++ [93]) := Lib.hid (by rw [← HD.out]; simp only [dmpE, openE, List.append_assoc])
        have hss : s.size ≤ 1000000 := by
          rw [sz_list HS.out]
          have h1 := HL.out
          rw [HD.out, HDT.out] at h1
          simp only [List.length_append] at h1 ⊢
          omega
        have hcase : op = 1 ∨ (op = 2 ∧ ys = true) ∨ (op = 2 ∧ ys = false) ∨ (op ≠ 1 ∧ op ≠ 2) := by
          by_cases h1 : op = 1
          · exact .inl h1
          · by_cases h2 : op = 2
            · cases ys
              · exact .inr (.inr (.inl ⟨h2, rfl⟩))
              · exact .inr (.inl ⟨h2, rfl⟩)
            · exact .inr (.inr (.inr ⟨h1, h2⟩))
        obtain ⟨T1, HT1⟩ : ∃ T1, Hid (tailE (.mk op nm md nu ys ks ps) = T1) := ⟨_, Lib.hid rfl⟩
        obtain ⟨N1, HN1⟩ : ∃ N1, Hid (nmE (.mk op nm md nu ys ks ps) = N1) := ⟨_, Lib.hid rfl⟩
        obtain ⟨X, HX⟩ : ∃ X, Hid (Ex.mk op nm md nu ys ks ps = X) := ⟨_, Lib.hid rfl⟩
        have HLP : Hid (∀ k, (91 :: decN op ++ N1 ++ T1 ++ dmpK (ks.take k)).length ≤ 999999) := Lib.hid (fun k => by
          have h1 := HL.out
          have h2 := dmpK_len_take ks k
          rw [HD.out, HDT.out, HN1.out, HT1.out] at h1
          simp only [List.length_append, List.length_singleton] at h1 ⊢
          omega)
        rw [HN1.out] at HS HDT
        rw [HT1.out] at HDT
        have HOP := Lib.hid hcase
        clear hcase
        rcases HOP.out with h | ⟨h, hyy⟩ | ⟨h, hyy⟩ | ⟨h, h2⟩
        · have q1 : ((op : Int) == 1) = true := by rw [h]; rfl
          have q1' : (op == 1) = true := by rw [h]; rfl
          have q2 : ((op : Int) == 2) = false := by rw [h]; rfl
          have q2' : (op == 2) = false := by rw [h]; rfl
          have HTL : Hid (T1 = 32 :: u.data.toList) := Lib.hid (by rw [← HT1.out]; simp [tailE, HUL.out, h])
          clear h
          go_wp2_with fail
          go_loopw [3, 4] (fun v i wr => ∃ k : Nat, k ≤ kl ∧ i = .int .i64 k ∧ (∃ t : ByteArray, v = .string t ∧ Hid (t.data.toList = 91 :: decN op ++ N1 ++ T1 ++ dmpK (ks.take k))) ∧ Hid (wc.grownBy wr none)) (fun _ i _ => kl - (intOf i).toNat)
          case atStart => exact ⟨0, Nat.zero_le _, rfl, ⟨_, rfl, Lib.hid (by simp [app_list, HS.out, HTL.out, dmpK])⟩, Lib.hid (gb_refl _ _)⟩
          case round =>
            obtain ⟨k, hk, rfl, ⟨t, rfl, HT⟩, HGR⟩ := hrel
            have HGR2 : Hid (w.grownBy wr none) := Lib.hid (gb_trans HGW.out HGR.out)
            have e5 := HGR.out.cell e5 (by simp)
            have hbw := Nat.lt_of_lt_of_le hbw HGR.out.size
            have hts : t.size ≤ 1000000 := by rw [sz_list HT.out]; have := HLP.out k; omega
            clear hss e0 e3 e4
            by_cases hlt : k < kl
            · have d3 : decide ((k : Int) < (kl : Int)) = true := decide_eq_true (by omega)
              have d3' : decide (k < kl) = true := decide_eq_true hlt
              obtain ⟨x, hx⟩ : ∃ x, ks[k]? = some x := ⟨ks[k]'(by rw [HKL.out]; exact hlt), List.getElem?_eq_getElem _⟩
              obtain ⟨qx, hqx, hEx⟩ := Lr_get HLS.out hx
              have HNX := Lib.hid (dmpK_next hx)
              have HSX : Hid (sizE x ≤ n) := Lib.hid (by have := sizK_get hx; have := HN.out; simp only [sizE] at this; omega)
              have HEX := Lib.hid (hEx.kept HGR2.out)
              have HAX := Lib.hid (allSs_mem HKS.out (List.mem_of_getElem? hx))
              obtain ⟨g, off, rfl, hgl, hc⟩ := HG.out.resolve_left (fun e => by rw [e] at hqx; simp at hqx)
              have HLX : Hid ((dmpE x).length ≤ 999998) := Lib.hid (by
                have h1 := HLP.out (k + 1)
                rw [HNX.out] at h1
                simp only [List.length_append, List.length_cons] at h1
                omega)
              have HIH := Lib.hid (fun W h => IH.out x HSX.out F qx W h HAX.out (by have := HLX.out; omega))
              cases x with
              | mk op' nm' md' nu' ys' ks' ps' =>
                simp only [RAt] at hEx
                obtain ⟨pk', ck', rows', rfl, -⟩ := hEx
                unfold strV at *
                generalize (⟨nm'.toArray⟩ : ByteArray) = y' at *
                generalize (⟨md'.toArray⟩ : ByteArray) = z' at *
                generalize (⟨nu'.toArray⟩ : ByteArray) = u' at *
                generalize hkl' : ks'.length = kl' at *
                have hc := fun i v h => HGR2.out.cell (hc k _ hqx i v h) (by simp)
                have c0 := hc 0 _ rfl
                have c1 := hc 1 _ rfl
                have c2 := hc 2 _ rfl
                have c3 := hc 3 _ rfl
                have c4 := hc 4 _ rfl
                have c5 := hc 5 _ rfl
                have c6 := hc 6 _ rfl
                rw [Nat.add_zero] at c0
                have hgl := Nat.lt_of_lt_of_le hgl HGR2.out.size
                obtain ⟨ax, hax⟩ : ∃ ax, dmpE (Ex.mk op' nm' md' nu' ys' ks' ps') = ax := ⟨_, rfl⟩
                rw [hax] at HLX HNX HIH
                clear hx hqx hc hkl' hax
                go_wp2_with fail
                refine (HIH.out _ HEX.out).mono ?_
                rintro e w7 ⟨⟨d, rfl, hd⟩, hg7⟩
                have hds : d.size ≤ 999998 := by rw [sz_list hd]; exact HLX.out
                have HS2 : Hid ((t ++ ((⟨#[32]⟩ : ByteArray) ++ d)).data.toList = 91 :: decN op ++ N1 ++ T1 ++ dmpK (ks.take (k + 1))) := Lib.hid (by rw [app_list, app_list, HT.out, hd, HNX.out, List.append_assoc]; rfl)
                have HG7 : Hid (wc.grownBy w7 none) := Lib.hid (gb_trans HGR.out hg7)
                clear hd hg7
                go_wp2_with fail
                go_roundw
                case rel => exact ⟨k + 1, by omega, by go_num, ⟨_, rfl, HS2⟩, HG7⟩
                case measure => (simp [intOf] <;> omega)
            · obtain rfl : k = kl := by omega
              rw [List.take_of_length_le (by rw [HKL.out]; exact Nat.le_refl _)] at HT
              go_wp2_with fail
              go_ret
              exact ⟨⟨_, rfl, by rw [app_list, HT.out, HDT.out]⟩, HGR2.out⟩
        · have q1 : ((op : Int) == 1) = false := by rw [h]; rfl
          have q1' : (op == 1) = false := by rw [h]; rfl
          have q2 : ((op : Int) == 2) = true := by rw [h]; rfl
          have q2' : (op == 2) = true := by rw [h]; rfl
          have HTL : Hid (T1 = [32, 116, 114, 117, 101]) := Lib.hid (by rw [← HT1.out]; simp [tailE, h, hyy])
          subst hyy
          clear h
          go_wp2_with fail
          go_loopw [3, 4] (fun v i wr => ∃ k : Nat, k ≤ kl ∧ i = .int .i64 k ∧ (∃ t : ByteArray, v = .string t ∧ Hid (t.data.toList = 91 :: decN op ++ N1 ++ T1 ++ dmpK (ks.take k))) ∧ Hid (wc.grownBy wr none)) (fun _ i _ => kl - (intOf i).toNat)
          case atStart => exact ⟨0, Nat.zero_le _, rfl, ⟨_, rfl, Lib.hid (by simp [app_list, HS.out, HTL.out, dmpK])⟩, Lib.hid (gb_refl _ _)⟩
          case round =>
            obtain ⟨k, hk, rfl, ⟨t, rfl, HT⟩, HGR⟩ := hrel
            have HGR2 : Hid (w.grownBy wr none) := Lib.hid (gb_trans HGW.out HGR.out)
            have e5 := HGR.out.cell e5 (by simp)
            have hbw := Nat.lt_of_lt_of_le hbw HGR.out.size
            have hts : t.size ≤ 1000000 := by rw [sz_list HT.out]; have := HLP.out k; omega
            clear hss e0 e3 e4
            by_cases hlt : k < kl
            · have d3 : decide ((k : Int) < (kl : Int)) = true := decide_eq_true (by omega)
              have d3' : decide (k < kl) = true := decide_eq_true hlt
              obtain ⟨x, hx⟩ : ∃ x, ks[k]? = some x := ⟨ks[k]'(by rw [HKL.out]; exact hlt), List.getElem?_eq_getElem _⟩
              obtain ⟨qx, hqx, hEx⟩ := Lr_get HLS.out hx
              have HNX := Lib.hid (dmpK_next hx)
              have HSX : Hid (sizE x ≤ n) := Lib.hid (by have := sizK_get hx; have := HN.out; simp only [sizE] at this; omega)
              have HEX := Lib.hid (hEx.kept HGR2.out)
              have HAX := Lib.hid (allSs_mem HKS.out (List.mem_of_getElem? hx))
              obtain ⟨g, off, rfl, hgl, hc⟩ := HG.out.resolve_left (fun e => by rw [e] at hqx; simp at hqx)
              have HLX : Hid ((dmpE x).length ≤ 999998) := Lib.hid (by
                have h1 := HLP.out (k + 1)
                rw [HNX.out] at h1
                simp only [List.length_append, List.length_cons] at h1
                omega)
              have HIH := Lib.hid (fun W h => IH.out x HSX.out F qx W h HAX.out (by have := HLX.out; omega))
              cases x with
              | mk op' nm' md' nu' ys' ks' ps' =>
                simp only [RAt] at hEx
                obtain ⟨pk', ck', rows', rfl, -⟩ := hEx
                unfold strV at *
                generalize (⟨nm'.toArray⟩ : ByteArray) = y' at *
                generalize (⟨md'.toArray⟩ : ByteArray) = z' at *
                generalize (⟨nu'.toArray⟩ : ByteArray) = u' at *
                generalize hkl' : ks'.length = kl' at *
                have hc := fun i v h => HGR2.out.cell (hc k _ hqx i v h) (by simp)
                have c0 := hc 0 _ rfl
                have c1 := hc 1 _ rfl
                have c2 := hc 2 _ rfl
                have c3 := hc 3 _ rfl
                have c4 := hc 4 _ rfl
                have c5 := hc 5 _ rfl
                have c6 := hc 6 _ rfl
                rw [Nat.add_zero] at c0
                have hgl := Nat.lt_of_lt_of_le hgl HGR2.out.size
                obtain ⟨ax, hax⟩ : ∃ ax, dmpE (Ex.mk op' nm' md' nu' ys' ks' ps') = ax := ⟨_, rfl⟩
                rw [hax] at HLX HNX HIH
                clear hx hqx hc hkl' hax
                go_wp2_with fail
                refine (HIH.out _ HEX.out).mono ?_
                rintro e w7 ⟨⟨d, rfl, hd⟩, hg7⟩
                have hds : d.size ≤ 999998 := by rw [sz_list hd]; exact HLX.out
                have HS2 : Hid ((t ++ ((⟨#[32]⟩ : ByteArray) ++ d)).data.toList = 91 :: decN op ++ N1 ++ T1 ++ dmpK (ks.take (k + 1))) := Lib.hid (by rw [app_list, app_list, HT.out, hd, HNX.out, List.append_assoc]; rfl)
                have HG7 : Hid (wc.grownBy w7 none) := Lib.hid (gb_trans HGR.out hg7)
                clear hd hg7
                go_wp2_with fail
                go_roundw
                case rel => exact ⟨k + 1, by omega, by go_num, ⟨_, rfl, HS2⟩, HG7⟩
                case measure => (simp [intOf] <;> omega)
            · obtain rfl : k = kl := by omega
              rw [List.take_of_length_le (by rw [HKL.out]; exact Nat.le_refl _)] at HT
              go_wp2_with fail
              go_ret
              exact ⟨⟨_, rfl, by rw [app_list, HT.out, HDT.out]⟩, HGR2.out⟩
        · have q1 : ((op : Int) == 1) = false := by rw [h]; rfl
          have q1' : (op == 1) = false := by rw [h]; rfl
          have q2 : ((op : Int) == 2) = true := by rw [h]; rfl
          have q2' : (op == 2) = true := by rw [h]; rfl
          have HTL : Hid (T1 = [32, 102, 97, 108, 115, 101]) := Lib.hid (by rw [← HT1.out]; simp [tailE, h, hyy])
          subst hyy
          clear h
          go_wp2_with fail
          go_loopw [3, 4] (fun v i wr => ∃ k : Nat, k ≤ kl ∧ i = .int .i64 k ∧ (∃ t : ByteArray, v = .string t ∧ Hid (t.data.toList = 91 :: decN op ++ N1 ++ T1 ++ dmpK (ks.take k))) ∧ Hid (wc.grownBy wr none)) (fun _ i _ => kl - (intOf i).toNat)
          case atStart => exact ⟨0, Nat.zero_le _, rfl, ⟨_, rfl, Lib.hid (by simp [app_list, HS.out, HTL.out, dmpK])⟩, Lib.hid (gb_refl _ _)⟩
          case round =>
            obtain ⟨k, hk, rfl, ⟨t, rfl, HT⟩, HGR⟩ := hrel
            have HGR2 : Hid (w.grownBy wr none) := Lib.hid (gb_trans HGW.out HGR.out)
            have e5 := HGR.out.cell e5 (by simp)
            have hbw := Nat.lt_of_lt_of_le hbw HGR.out.size
            have hts : t.size ≤ 1000000 := by rw [sz_list HT.out]; have := HLP.out k; omega
            clear hss e0 e3 e4
            by_cases hlt : k < kl
            · have d3 : decide ((k : Int) < (kl : Int)) = true := decide_eq_true (by omega)
              have d3' : decide (k < kl) = true := decide_eq_true hlt
              obtain ⟨x, hx⟩ : ∃ x, ks[k]? = some x := ⟨ks[k]'(by rw [HKL.out]; exact hlt), List.getElem?_eq_getElem _⟩
              obtain ⟨qx, hqx, hEx⟩ := Lr_get HLS.out hx
              have HNX := Lib.hid (dmpK_next hx)
              have HSX : Hid (sizE x ≤ n) := Lib.hid (by have := sizK_get hx; have := HN.out; simp only [sizE] at this; omega)
              have HEX := Lib.hid (hEx.kept HGR2.out)
              have HAX := Lib.hid (allSs_mem HKS.out (List.mem_of_getElem? hx))
              obtain ⟨g, off, rfl, hgl, hc⟩ := HG.out.resolve_left (fun e => by rw [e] at hqx; simp at hqx)
              have HLX : Hid ((dmpE x).length ≤ 999998) := Lib.hid (by
                have h1 := HLP.out (k + 1)
                rw [HNX.out] at h1
                simp only [List.length_append, List.length_cons] at h1
                omega)
              have HIH := Lib.hid (fun W h => IH.out x HSX.out F qx W h HAX.out (by have := HLX.out; omega))
              cases x with
              | mk op' nm' md' nu' ys' ks' ps' =>
                simp only [RAt] at hEx
                obtain ⟨pk', ck', rows', rfl, -⟩ := hEx
                unfold strV at *
                generalize (⟨nm'.toArray⟩ : ByteArray) = y' at *
                generalize (⟨md'.toArray⟩ : ByteArray) = z' at *
                generalize (⟨nu'.toArray⟩ : ByteArray) = u' at *
                generalize hkl' : ks'.length = kl' at *
                have hc := fun i v h => HGR2.out.cell (hc k _ hqx i v h) (by simp)
                have c0 := hc 0 _ rfl
                have c1 := hc 1 _ rfl
                have c2 := hc 2 _ rfl
                have c3 := hc 3 _ rfl
                have c4 := hc 4 _ rfl
                have c5 := hc 5 _ rfl
                have c6 := hc 6 _ rfl
                rw [Nat.add_zero] at c0
                have hgl := Nat.lt_of_lt_of_le hgl HGR2.out.size
                obtain ⟨ax, hax⟩ : ∃ ax, dmpE (Ex.mk op' nm' md' nu' ys' ks' ps') = ax := ⟨_, rfl⟩
                rw [hax] at HLX HNX HIH
                clear hx hqx hc hkl' hax
                go_wp2_with fail
                refine (HIH.out _ HEX.out).mono ?_
                rintro e w7 ⟨⟨d, rfl, hd⟩, hg7⟩
                have hds : d.size ≤ 999998 := by rw [sz_list hd]; exact HLX.out
                have HS2 : Hid ((t ++ ((⟨#[32]⟩ : ByteArray) ++ d)).data.toList = 91 :: decN op ++ N1 ++ T1 ++ dmpK (ks.take (k + 1))) := Lib.hid (by rw [app_list, app_list, HT.out, hd, HNX.out, List.append_assoc]; rfl)
                have HG7 : Hid (wc.grownBy w7 none) := Lib.hid (gb_trans HGR.out hg7)
                clear hd hg7
                go_wp2_with fail
                go_roundw
                case rel => exact ⟨k + 1, by omega, by go_num, ⟨_, rfl, HS2⟩, HG7⟩
                case measure => (simp [intOf] <;> omega)
            · obtain rfl : k = kl := by omega
              rw [List.take_of_length_le (by rw [HKL.out]; exact Nat.le_refl _)] at HT
              go_wp2_with fail
              go_ret
              exact ⟨⟨_, rfl, by rw [app_list, HT.out, HDT.out]⟩, HGR2.out⟩
        · have q1 : ((op : Int) == 1) = false := beq_eq_false_iff_ne.2 (by omega)
          have q1' : (op == 1) = false := beq_eq_false_iff_ne.2 h
          have q2 : ((op : Int) == 2) = false := beq_eq_false_iff_ne.2 (by omega)
          have q2' : (op == 2) = false := beq_eq_false_iff_ne.2 h2
          have HTL : Hid (T1 = []) := Lib.hid (by rw [← HT1.out]; simp [tailE, h, h2])
          clear h h2
          go_wp2_with fail
          go_loopw [3, 4] (fun v i wr => ∃ k : Nat, k ≤ kl ∧ i = .int .i64 k ∧ (∃ t : ByteArray, v = .string t ∧ Hid (t.data.toList = 91 :: decN op ++ N1 ++ T1 ++ dmpK (ks.take k))) ∧ Hid (wc.grownBy wr none)) (fun _ i _ => kl - (intOf i).toNat)
          case atStart => exact ⟨0, Nat.zero_le _, rfl, ⟨_, rfl, Lib.hid (by simp [app_list, HS.out, HTL.out, dmpK])⟩, Lib.hid (gb_refl _ _)⟩
          case round =>
            obtain ⟨k, hk, rfl, ⟨t, rfl, HT⟩, HGR⟩ := hrel
            have HGR2 : Hid (w.grownBy wr none) := Lib.hid (gb_trans HGW.out HGR.out)
            have e5 := HGR.out.cell e5 (by simp)
            have hbw := Nat.lt_of_lt_of_le hbw HGR.out.size
            have hts : t.size ≤ 1000000 := by rw [sz_list HT.out]; have := HLP.out k; omega
            clear hss e0 e3 e4
            by_cases hlt : k < kl
            · have d3 : decide ((k : Int) < (kl : Int)) = true := decide_eq_true (by omega)
              have d3' : decide (k < kl) = true := decide_eq_true hlt
              obtain ⟨x, hx⟩ : ∃ x, ks[k]? = some x := ⟨ks[k]'(by rw [HKL.out]; exact hlt), List.getElem?_eq_getElem _⟩
              obtain ⟨qx, hqx, hEx⟩ := Lr_get HLS.out hx
              have HNX := Lib.hid (dmpK_next hx)
              have HSX : Hid (sizE x ≤ n) := Lib.hid (by have := sizK_get hx; have := HN.out; simp only [sizE] at this; omega)
              have HEX := Lib.hid (hEx.kept HGR2.out)
              have HAX := Lib.hid (allSs_mem HKS.out (List.mem_of_getElem? hx))
              obtain ⟨g, off, rfl, hgl, hc⟩ := HG.out.resolve_left (fun e => by rw [e] at hqx; simp at hqx)
              have HLX : Hid ((dmpE x).length ≤ 999998) := Lib.hid (by
                have h1 := HLP.out (k + 1)
                rw [HNX.out] at h1
                simp only [List.length_append, List.length_cons] at h1
                omega)
              have HIH := Lib.hid (fun W h => IH.out x HSX.out F qx W h HAX.out (by have := HLX.out; omega))
              cases x with
              | mk op' nm' md' nu' ys' ks' ps' =>
                simp only [RAt] at hEx
                obtain ⟨pk', ck', rows', rfl, -⟩ := hEx
                unfold strV at *
                generalize (⟨nm'.toArray⟩ : ByteArray) = y' at *
                generalize (⟨md'.toArray⟩ : ByteArray) = z' at *
                generalize (⟨nu'.toArray⟩ : ByteArray) = u' at *
                generalize hkl' : ks'.length = kl' at *
                have hc := fun i v h => HGR2.out.cell (hc k _ hqx i v h) (by simp)
                have c0 := hc 0 _ rfl
                have c1 := hc 1 _ rfl
                have c2 := hc 2 _ rfl
                have c3 := hc 3 _ rfl
                have c4 := hc 4 _ rfl
                have c5 := hc 5 _ rfl
                have c6 := hc 6 _ rfl
                rw [Nat.add_zero] at c0
                have hgl := Nat.lt_of_lt_of_le hgl HGR2.out.size
                obtain ⟨ax, hax⟩ : ∃ ax, dmpE (Ex.mk op' nm' md' nu' ys' ks' ps') = ax := ⟨_, rfl⟩
                rw [hax] at HLX HNX HIH
                clear hx hqx hc hkl' hax
                go_wp2_with fail
                refine (HIH.out _ HEX.out).mono ?_
                rintro e w7 ⟨⟨d, rfl, hd⟩, hg7⟩
                have hds : d.size ≤ 999998 := by rw [sz_list hd]; exact HLX.out
                have HS2 : Hid ((t ++ ((⟨#[32]⟩ : ByteArray) ++ d)).data.toList = 91 :: decN op ++ N1 ++ T1 ++ dmpK (ks.take (k + 1))) := Lib.hid (by rw [app_list, app_list, HT.out, hd, HNX.out, List.append_assoc]; rfl)
                have HG7 : Hid (wc.grownBy w7 none) := Lib.hid (gb_trans HGR.out hg7)
                clear hd hg7
                go_wp2_with fail
                go_roundw
                case rel => exact ⟨k + 1, by omega, by go_num, ⟨_, rfl, HS2⟩, HG7⟩
                case measure => (simp [intOf] <;> omega)
            · obtain rfl : k = kl := by omega
              rw [List.take_of_length_le (by rw [HKL.out]; exact Nat.le_refl _)] at HT
              go_wp2_with fail
              go_ret
              exact ⟨⟨_, rfl, by rw [app_list, HT.out, HDT.out]⟩, HGR2.out⟩
end Go.Proofs.YtdilncefhfbgeaaGreatDoor
namespace Go.Proofs.YtdilncefhfbgeaaGreatDoor
open Go.RowKit

def signsV : List Value := signs8.map (fun s => Value.string ⟨s.toArray⟩)
theorem signs_get {k : Nat} (h : k < 14) : signsV[k]? = some (.string ⟨(signs8.getD k []).toArray⟩) := by
  have : ∀ k : Fin 14, signs8[k.val]? = some (signs8.getD k.val []) := by decide
  unfold signsV
  rw [List.getElem?_map, this ⟨k, h⟩]; rfl
theorem idx_first {s : List UInt8} {k : Nat} (hk : k < 14) (h : signs8.getD k [] = s) (hn : ∀ j, j < k → signs8.getD j [] ≠ s) : signs8.idxOf s = k := by
  have hl : signs8.length = 14 := rfl
  have hg : ∀ j (hj : j < 14), signs8.getD j [] = signs8[j]'(by rw [hl]; exact hj) := fun j hj => by
    rw [List.getD_eq_getElem?_getD, List.getElem?_eq_getElem (by rw [hl]; exact hj)]; rfl
  have hm : s ∈ signs8 := by rw [← h, hg k hk]; exact List.getElem_mem _
  have h1 := List.idxOf_lt_length_of_mem hm
  have h2 := List.getElem_idxOf (xs := signs8) (x := s) h1
  rcases Nat.lt_trichotomy (signs8.idxOf s) k with h3 | h3 | h3
  · exact absurd (by rw [hg _ (by omega)]; exact h2) (hn _ h3)
  · exact h3
  · exfalso
    have h4 := List.not_of_lt_findIdx (xs := signs8) (p := (· == s)) h3
    rw [← hg k hk, h] at h4
    simp at h4
theorem idx_none {s : List UInt8} (hn : ∀ j, j < 14 → signs8.getD j [] ≠ s) : binE s = 0 := by
  have hl : signs8.length = 14 := rfl
  unfold binE
  rw [if_neg]
  intro h1
  have h2 := List.getElem_idxOf (xs := signs8) (x := s) (by rw [hl]; exact h1)
  exact hn _ h1 (by rw [List.getD_eq_getElem?_getD, List.getElem?_eq_getElem (by rw [hl]; exact h1)]; exact h2)

set_option maxRecDepth 100000 in
set_option maxHeartbeats 16000000 in
theorem rop_c (s : ByteArray) (w : World) : Calls Tryz.prog 65 #[.string s] w (fun e w' => e = .returned (.int .i64 (binE s.data.toList : Int)) ∧ w.grownBy w' none) := by
  obtain ⟨R, hR⟩ : ∃ R, binE s.data.toList = R := ⟨_, rfl⟩
  rw [hR]
  have HR := Lib.hid hR
  clear hR
  go_enter Tryz.func65, Tryz.ntmps65
  go_wp2_with fail
  have hA := heap_alloc_new w (.cells signsV.toArray 182)
  have hgA := World.grownBy_alloc w (.cells signsV.toArray 182) none
  change (w.alloc (.cells #[.string ⟨#[43]⟩, .string ⟨#[45]⟩, .string ⟨#[42]⟩, .string ⟨#[47]⟩, .string ⟨#[37]⟩, .string ⟨#[61]⟩, .string ⟨#[60, 62]⟩, .string ⟨#[60]⟩, .string ⟨#[60, 61]⟩, .string ⟨#[62]⟩, .string ⟨#[62, 61]⟩, .string ⟨#[38, 38]⟩, .string ⟨#[124, 124]⟩, .string ⟨#[61, 62]⟩] 182)).heap[w.heap.size]? = _ at hA
  change w.grownBy (w.alloc (.cells #[.string ⟨#[43]⟩, .string ⟨#[45]⟩, .string ⟨#[42]⟩, .string ⟨#[47]⟩, .string ⟨#[37]⟩, .string ⟨#[61]⟩, .string ⟨#[60, 62]⟩, .string ⟨#[60]⟩, .string ⟨#[60, 61]⟩, .string ⟨#[62]⟩, .string ⟨#[62, 61]⟩, .string ⟨#[38, 38]⟩, .string ⟨#[124, 124]⟩, .string ⟨#[61, 62]⟩] 182)) none at hgA
  generalize (w.alloc (.cells #[.string ⟨#[43]⟩, .string ⟨#[45]⟩, .string ⟨#[42]⟩, .string ⟨#[47]⟩, .string ⟨#[37]⟩, .string ⟨#[61]⟩, .string ⟨#[60, 62]⟩, .string ⟨#[60]⟩, .string ⟨#[60, 61]⟩, .string ⟨#[62]⟩, .string ⟨#[62, 61]⟩, .string ⟨#[38, 38]⟩, .string ⟨#[124, 124]⟩, .string ⟨#[61, 62]⟩] 182)) = WA at *
  obtain ⟨b, hb⟩ : ∃ b, w.heap.size = b := ⟨_, rfl⟩
  rw [hb] at hA ⊢
  have HA := Lib.hid hA; have HGA := Lib.hid hgA
  clear hA hgA hb
  go_loopw [4] (fun i wr => ∃ k : Nat, k ≤ 14 ∧ i = .int .i64 k ∧ Hid (∀ j, j < k → signs8.getD j [] ≠ s.data.toList) ∧ Hid (WA.grownBy wr none)) (fun i _ => 14 - (intOf i).toNat)
  case atStart => exact ⟨0, by omega, rfl, Lib.hid (fun j hj => by omega), Lib.hid (gb_refl _ _)⟩
  case round =>
    obtain ⟨k, hk, rfl, HN, HGR⟩ := hrel
    by_cases hlt : k < 14
    · have d3 : decide ((k : Int) < 14) = true := decide_eq_true (by omega)
      have d3' : decide (k < 14) = true := decide_eq_true hlt
      have hbw : b < wr.heap.size := hlt' (bx HGR.out HA.out)
      have ck : wr.cell? ⟨b, k, none⟩ = some (.string ⟨(signs8.getD k []).toArray⟩) := by
        rw [cell_of_row wr b k _ _ (0, 0) (bx HGR.out HA.out)]
        rw [List.getElem?_toArray]; exact signs_get hlt
      obtain ⟨g, hg⟩ : ∃ g : ByteArray, (⟨(signs8.getD k []).toArray⟩ : ByteArray) = g := ⟨_, rfl⟩
      have HGL : Hid (g.data.toList = signs8.getD k []) := Lib.hid (by rw [← hg])
      rw [hg] at ck
      clear hg
      by_cases he : g = s
      · have HIX : Hid (R = 7 + k) := Lib.hid (by
          have h1 := idx_first hlt (s := s.data.toList) (by rw [← HGL.out, he]) HN.out
          rw [← HR.out]; unfold binE; rw [h1, if_pos hlt])
        have hw1 : IntKind.i64.wrap (7 + (k : Int)) = 7 + (k : Int) := IntWalk.i64_in _ (by omega)
        go_wp2_with fail
        go_ret
        exact ⟨by rw [HIX.out]; simp, gb_trans HGA.out HGR.out⟩
      · have HN2 : Hid (∀ j, j < k + 1 → signs8.getD j [] ≠ s.data.toList) := Lib.hid (fun j hj => by
          rcases Nat.lt_succ_iff_lt_or_eq.1 hj with h | h
          · exact HN.out j h
          · subst h
            intro h2
            rw [← HGL.out] at h2
            exact he (by cases g; cases s; simp only [Array.toList_inj] at h2; rw [h2]))
        have hne : (g.toList == s.toList) = false := beq_eq_false_iff_ne.2 (fun h2 => by
          rw [toList_data, toList_data] at h2
          exact he (by cases g; cases s; simp only [Array.toList_inj] at h2; rw [h2]))
        go_wp2_with fail
        go_roundw
        case rel => exact ⟨k + 1, by omega, by go_num, HN2, HGR⟩
        case measure => (simp [intOf] <;> omega)
    · obtain rfl : k = 14 := by omega
      have HRN : Hid (R = 0) := Lib.hid (by rw [← HR.out]; exact idx_none HN.out)
      go_wp2_with fail
      go_ret
      exact ⟨by rw [HRN.out]; rfl, gb_trans HGA.out HGR.out⟩
end Go.Proofs.YtdilncefhfbgeaaGreatDoor
namespace Go.Proofs.YtdilncefhfbgeaaGreatDoor
open Go.RowKit

def noTok : TokI := ⟨0, [], [], 0⟩
def leafV (T : List TokI) (x : Nd) : TokI := if x.kind = 19 then T[x.tok.toNat]?.getD noTok else noTok
def TokPost (t : TokI) (w : World) (e : Ending) (w' : World) : Prop := e = .returned (.agg #[.int .i64 t.kind, strV t.lead, strV t.text, .int .i64 t.pos]) ∧ w.grownBy w' none

set_option maxRecDepth 100000 in
set_option maxHeartbeats 16000000 in
theorem rleaf_c (T : List TokI) (N : List Nd) (K : Nat → Option Addr × Nat) (pt pn : Option Addr) (ct cn n : Nat) (x : Nd) (w : World) (ht : ToksAt w pt T) (hw : NodesAt w pn N K) (hx : N[n]? = some x) (hk : x.kind = 19 → 0 ≤ x.tok ∧ x.tok < (T.length : Int)) (hl : T.length ≤ 1000000 ∧ N.length ≤ 1000000) :
    Calls Tryz.prog 52 #[.agg #[.slice pt T.length ct, .slice pn N.length cn], .int .i64 (n : Int)] w (TokPost (leafV T x) w) := by
  obtain ⟨g, off, rfl, hgl, c0, c1, c2⟩ := node_at hw hx
  have hn : n < N.length := (List.getElem?_eq_some_iff.1 hx).1
  obtain ⟨xk, hxk⟩ : ∃ xk, x.kind = xk := ⟨_, rfl⟩
  obtain ⟨xt, hxt⟩ : ∃ xt, x.tok = xt := ⟨_, rfl⟩
  obtain ⟨kl, hkl⟩ : ∃ kl, x.kids.length = kl := ⟨_, rfl⟩
  rw [hxk] at c0 hk
  rw [hxt] at c1 hk
  rw [hkl] at c2
  generalize K n = kk at *
  obtain ⟨kq, kc⟩ := kk
  simp only at c2
  by_cases h19 : xk = 19
  · obtain ⟨h1, h2⟩ := hk h19
    obtain ⟨tn, rfl⟩ : ∃ tn : Nat, xt = (tn : Int) := ⟨xt.toNat, by omega⟩
    obtain ⟨t, htt⟩ : ∃ t, T[tn]? = some t := ⟨T[tn]'(by omega), List.getElem?_eq_getElem _⟩
    obtain ⟨g2, o2, rfl, hgl2, t0, t1, t2, t3⟩ := tok_at ht htt
    have HLV : Hid (leafV T x = t) := Lib.hid (by unfold leafV; rw [if_pos (hxk.trans h19), hxt, Int.toNat_natCast, htt]; rfl)
    rw [HLV.out]
    obtain ⟨M, hM⟩ : ∃ M, N.length = M := ⟨_, rfl⟩
    obtain ⟨m, hm⟩ : ∃ m, T.length = m := ⟨_, rfl⟩
    rw [hM] at hn ⊢
    rw [hm] at h2 ⊢
    have hlm : m ≤ 1000000 ∧ M ≤ 1000000 := by rw [← hm, ← hM]; exact hl
    obtain ⟨tk, hd, tx, tp⟩ := t
    unfold TokPost
    simp only at t0 t1 t2 t3 ⊢
    unfold strV at *
    generalize (⟨hd.toArray⟩ : ByteArray) = y1 at *
    generalize (⟨tx.toArray⟩ : ByteArray) = y2 at *
    have d1 : decide (n < M) = true := decide_eq_true hn
    have d1' : decide ((n : Int) < (M : Int)) = true := decide_eq_true (by omega)
    have d2 : decide (tn < m) = true := decide_eq_true (by omega)
    have d2' : decide ((tn : Int) < (m : Int)) = true := decide_eq_true (by omega)
    subst h19
    clear hx hk hM hm hl htt HLV ht hw hxk hxt hkl
    go_enter Tryz.func52, Tryz.ntmps52
    go_wp2_with fail
    have hgA := World.grownBy_alloc w (.cells #[.slice (some ⟨g2, o2, none⟩) m ct, .slice (some ⟨g, off, none⟩) M cn] 46) none
    have hgB := gb_trans hgA (World.grownBy_alloc (w.alloc (.cells #[.slice (some ⟨g2, o2, none⟩) m ct, .slice (some ⟨g, off, none⟩) M cn] 46)) (.cells #[.int .i64 0, .string ⟨#[]⟩, .string ⟨#[]⟩, .int .i64 0] 110) none)
    have c0 := hgB.cell c0 (by simp)
    have c1 := hgB.cell c1 (by simp)
    have t0 := hgB.cell t0 (by simp)
    have t1 := hgB.cell t1 (by simp)
    have t2 := hgB.cell t2 (by simp)
    have t3 := hgB.cell t3 (by simp)
    clear hgA hgB
    go_region
    all_goals
      go_wp2_with fail
      go_returns
      exact ⟨rfl, by repeat (first | with_reducible exact gb_refl _ _ | with_reducible refine gb_drew ?_ | with_reducible refine gb_alloc ?_ _)⟩
  · have d0 : (xk == 19) = false := beq_eq_false_iff_ne.2 h19
    have d0' : (xk != 19) = true := by rw [bne, d0]; rfl
    have HLV : Hid (leafV T x = noTok) := Lib.hid (by unfold leafV; rw [if_neg (by rw [hxk]; exact h19)])
    rw [HLV.out]
    obtain ⟨M, hM⟩ : ∃ M, N.length = M := ⟨_, rfl⟩
    obtain ⟨m, hm⟩ : ∃ m, T.length = m := ⟨_, rfl⟩
    rw [hM] at hn ⊢
    rw [hm]
    have hlm : m ≤ 1000000 ∧ M ≤ 1000000 := by rw [← hm, ← hM]; exact hl
    have d1 : decide (n < M) = true := decide_eq_true hn
    have d1' : decide ((n : Int) < (M : Int)) = true := decide_eq_true (by omega)
    unfold TokPost noTok strV
    clear hx hk hM hm hl HLV ht hw hxk hxt hkl
    go_enter Tryz.func52, Tryz.ntmps52
    go_wp2_with fail
    go_returns
    exact ⟨rfl, gb_alloc (gb_alloc (gb_refl _ _) _) _⟩
end Go.Proofs.YtdilncefhfbgeaaGreatDoor
namespace Go.Proofs.YtdilncefhfbgeaaGreatDoor
open Go.RowKit

def LAt2 (w : World) (p : Option Addr) (zs : List Int) : Prop :=
  zs = [] ∨ ∃ g off, p = some ⟨g, off, none⟩ ∧ g < w.heap.size ∧ ∀ j, j < zs.length → w.cell? ⟨g, off + j, none⟩ = some (.int .i64 (zs.getD j 0))
theorem lat_of_v {w : World} {p : Option Addr} {zs : List Int} (h : VAt w p (intsV zs)) : LAt2 w p zs := by
  rcases h with h | ⟨g, off, rfl, hl, hc⟩
  · left; unfold intsV at h; simpa using h
  · right
    refine ⟨g, off, rfl, hl, fun j hj => hc j _ ?_⟩
    rw [intsV_get (List.getElem?_eq_getElem hj)]
    simp [List.getD, hj]
theorem take_more2 {l : List Int} {k : Nat} (h : k < l.length) : l.take (k + 1) = l.take k ++ [l.getD k 0] ∧ l.getD k 0 ∈ l := by
  rw [List.take_add_one]
  simp [List.getD, h]

def SamePost (b : Bool) (w : World) (e : Ending) (w' : World) : Prop := e = .returned (.bool b) ∧ w.grownBy w' none

set_option maxRecDepth 100000 in
set_option maxHeartbeats 2000000 in
theorem RSame_c (p1 p2 : Option Addr) (c1 c2 : Nat) (l1 l2 : List Int) (w : World) (hl : l1.length ≤ 1000000) (h1 : VAt w p1 (intsV l1)) (h2 : VAt w p2 (intsV l2)) : Calls Tryz.prog 21 #[.slice p1 l1.length c1, .slice p2 l2.length c2] w (SamePost (decide (l1 = l2)) w) := by
  by_cases hlen : l1.length = l2.length
  · obtain ⟨n, hn⟩ : ∃ n, l1.length = n := ⟨_, rfl⟩
    have hn2 : l2.length = n := by omega
    have HN1 := Lib.hid hn; have HN2 := Lib.hid hn2; have HA1 := Lib.hid (lat_of_v h1); have HA2 := Lib.hid (lat_of_v h2)
    rw [hn] at hl
    rw [hn, hn2]
    clear hn hn2 h1 h2 hlen
    go_enter Tryz.func21, Tryz.ntmps21
    go_wp2_with fail
    go_loopw [5] (fun i wr => ∃ k : Nat, k ≤ n ∧ i = .int .i64 k ∧ Hid (l1.take k = l2.take k) ∧ Hid (w.grownBy wr none)) (fun i _ => n - (intOf i).toNat)
    case atStart => exact ⟨0, by omega, rfl, Lib.hid (by simp), gb_refl _ _⟩
    case round =>
      obtain ⟨k, hk, rfl, HX, HG⟩ := hrel
      by_cases hlt : k < n
      · have hne1 : l1 ≠ [] := fun e => by have := HN1.out; rw [e] at this; simp at this; omega
        have hne2 : l2 ≠ [] := fun e => by have := HN2.out; rw [e] at this; simp at this; omega
        obtain ⟨g1, o1, rfl, hg1, hc1⟩ := HA1.out.resolve_left hne1
        obtain ⟨g2, o2, rfl, hg2, hc2⟩ := HA2.out.resolve_left hne2
        have hck1 := HG.out.cell (hc1 k (by have := HN1.out; omega)) (by simp)
        have hck2 := HG.out.cell (hc2 k (by have := HN2.out; omega)) (by simp)
        have HT1 := Lib.hid (take_more2 (l := l1) (k := k) (by have := HN1.out; omega))
        have HT2 := Lib.hid (take_more2 (l := l2) (k := k) (by have := HN2.out; omega))
        clear hc1 hc2 hne1 hne2
        generalize l1.getD k 0 = y1 at *
        generalize l2.getD k 0 = y2 at *
        by_cases he : y1 = y2
        · subst he
          go_wp2_with fail
          go_region
          all_goals
            go_wp2_with fail
            go_roundw
            case rel => exact ⟨k + 1, by omega, by go_num, Lib.hid (by rw [HT1.out.1, HT2.out.1, HX.out]), gb_drew HG.out⟩
            case measure => simp [intOf]; omega
        · have d1 : (y1 != y2) = true := bne_iff_ne.2 he
          have HM : Hid (decide (l1 = l2) = false) := Lib.hid (decide_eq_false fun e => he (by
            have e1 := HT1.out.1
            have e2 := HT2.out.1
            rw [← e, e1] at e2
            have e3 := List.append_inj e2 (by rw [HX.out])
            simpa using e3.2))
          clear he
          go_wp2_with fail
          go_region
          all_goals
            go_wp2_with fail
            go_ret
            exact ⟨by rw [HM.out]; rfl, gb_drew HG.out⟩
      · obtain rfl : k = n := by omega
        have HM : Hid (decide (l1 = l2) = true) := Lib.hid (decide_eq_true (by have := HX.out; rwa [List.take_of_length_le (by have := HN1.out; omega), List.take_of_length_le (by have := HN2.out; omega)] at this))
        go_wp2_with fail
        go_ret
        exact ⟨by rw [HM.out]; rfl, HG.out⟩
  · have d1 : ((l1.length : Int) != (l2.length : Int)) = true := bne_iff_ne.2 (by omega)
    have HM : Hid (decide (l1 = l2) = false) := Lib.hid (decide_eq_false fun e => hlen (by rw [e]))
    clear hlen h1 h2 hl
    generalize l1.length = n1 at *
    generalize l2.length = n2 at *
    go_enter Tryz.func21, Tryz.ntmps21
    go_wp2_with fail
    go_ret
    exact ⟨by rw [HM.out]; rfl, gb_refl _ _⟩

end Go.Proofs.YtdilncefhfbgeaaGreatDoor
