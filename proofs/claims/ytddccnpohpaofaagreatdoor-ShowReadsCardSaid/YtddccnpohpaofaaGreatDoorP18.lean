/- Lemmas. -/
import Derived.Test.YtddccnpohpaofaaGreatDoorP16
set_option linter.unusedVariables false
set_option linter.unusedSimpArgs false
namespace Go.Proofs.YtddccnpohpaofaaGreatDoor
open Go.RowKit

set_option maxRecDepth 100000 in
set_option maxHeartbeats 16000000 in
theorem isRight_c (f : Bool) (fn : Nat) (hfn : (fn = 35 ∧ f = true) ∨ (fn = 54 ∧ f = false)) (F : Nat → Prop) (a0 : Addr) (x0 : Sx) (q0 : List Value) (w : World) (hla : LaidE w) (hc : CAt w a0 q0) (hx : SAt F w x0 q0) (hsz : sizS x0 ≤ 1000000) (hok : okS x0) (hF : ∀ k, F k → k < w.heap.size) :
    Calls Tryz.prog 34 #[.pointer (some a0), .func (.func fn) #[] #[]] w (TruePost (rightB f x0) w) := by
  have HMAY : Hid (∀ op W, Calls Tryz.prog fn #[.int .i64 op] W (fun e w' => e = .returned (.bool (mayB f op)) ∧ w' = W)) := Lib.hid (by
    intro op W
    rcases hfn with ⟨rfl, rfl⟩ | ⟨rfl, rfl⟩
    · exact mayF_c op W
    · exact mayG_c op W)
  obtain ⟨g00, o00, rfl, hg0, hc0⟩ := id hc
  have HP0 := Lib.hid (PathI.start hc hx)
  have HT0 : Hid (todoP f [((⟨g00, o00, none⟩ : Addr), x0, 0)] = rightB f x0) := Lib.hid (by simp [todoP, todo1])
  have HC0 : Hid (cstP [((⟨g00, o00, none⟩ : Addr), x0, 0)] ≤ 4000000) := Lib.hid (by
    have h := cst_siz x0
    simp only [cstP, List.map_cons, List.map_nil, List.sum_cons, List.sum_nil, cst1_start]; omega)
  have HOK0 := Lib.hid hok; have HLA := Lib.hid hla; have HFB := Lib.hid hF
  obtain ⟨R, hR⟩ : ∃ R, rightB f x0 = R := ⟨_, rfl⟩
  obtain ⟨N, hN⟩ : ∃ N, sizS x0 = N := ⟨_, rfl⟩
  have HNB : Hid (N ≤ 1000000) := Lib.hid (by omega)
  rw [hR] at HT0 ⊢
  rw [hN] at HP0
  have HO0 := Lib.hid (OwnG.newS (s := 2) (T := 125) w w.heap.size [.pointer (some ⟨g00, o00, none⟩), .int .i64 0] rfl (fun u hu => by simp at hu; rcases hu with rfl | rfl <;> rfl) (Nat.le_refl _))
  have HG0 := Lib.hid (World.grownBy_alloc w (.cells #[.pointer (some ⟨g00, o00, none⟩), .int .i64 0] 125) none)
  obtain ⟨base, hbase⟩ : ∃ base, w.heap.size = base := ⟨_, rfl⟩
  have HBA := Lib.hid hbase
  rw [hbase] at HO0
  clear hla hc hx hsz hok hF hR hN hbase hc0 hg0
  rcases hfn with ⟨rfl, hf⟩ | ⟨rfl, hf⟩
  all_goals
    clear hf
    go_enter Tryz.func34, Tryz.ntmps34
    go_wp2_with fail
    try rw [HBA.out]
    generalize (w.alloc (.cells #[.pointer (some ⟨g00, o00, none⟩), .int .i64 0] 125)) = W at *
    go_loopg [5] (cstP [((⟨g00, o00, none⟩ : Addr), x0, 0)]) (fun gk av wr => ∃ P : List Pq, cstP P ≤ gk ∧ gk ≤ 4000000 ∧ Hid (OwnG 2 125 wr base av (P.map prow)) ∧ Hid (PathI F w N P) ∧ Hid (todoP f P = R) ∧ Hid (∀ p ∈ P, okS p.2.1) ∧ Hid (w.grownBy wr none))
    case atStart => exact ⟨[((⟨g00, o00, none⟩ : Addr), x0, 0)], Nat.le_refl _, HC0.out, HO0, HP0, HT0, Lib.hid (fun p hp => by simp at hp; subst hp; exact HOK0.out), HG0⟩
    case round =>
      obtain ⟨P, hcg, hgk, HO, HPI, HTD, HOKS, HG⟩ := hrel
      rcases list_lastS P with rfl | ⟨P', ⟨a, x, d⟩, rfl⟩
      · have hv : ∃ p c, u5 = .slice p 0 c := by
          obtain ⟨p, c, e, -⟩ := HO.out.is
          exact ⟨p, c, e⟩
        obtain ⟨p, c, rfl⟩ := hv
        have HFE : Hid (R = true) := Lib.hid (by rw [← HTD.out]; rfl)
        go_wp2_with fail
        go_ret
        exact ⟨by rw [HFE.out]; rfl, HG.out⟩
      · have hO : OwnG 2 125 wr base u5 (P'.map prow ++ [prow (a, x, d)]) := by have := HO.out; rwa [List.map_append] at this
        obtain ⟨L, hL⟩ : ∃ L, (P'.map prow).length = L := ⟨_, rfl⟩
        obtain ⟨p, c, rfl, -, hnc, hcm, -⟩ := hO.is
        obtain ⟨-, hpop, ga, rfl⟩ := hO.popS
        have hlen : (P'.map prow ++ [prow (a, x, d)]).length = L + 1 := by rw [List.length_append, hL]; rfl
        rw [hlen] at hO hnc ⊢
        have HLG : Hid (P'.length = L) := Lib.hid (by rw [← hL, List.length_map])
        have hLb : L + 1 ≤ 4000000 := by
          have h1 := cstP_len (P' ++ [(a, x, d)])
          rw [List.length_append, List.length_singleton] at h1
          have h2 := HLG.out
          omega
        obtain ⟨q, hca, hsa, hdk⟩ := HPI.out.at_ (a, x, d) (by simp)
        have hoa := HOKS.out (a, x, d) (by simp)
        simp only at hca hsa hdk hoa
        obtain ⟨fg, fo, rfl, ⟨hfg, hfl⟩, -⟩ := id hca
        cases x with
        | mk op nm md nu ys ks ps =>
          simp only [Sx.ks] at hdk
          simp only [okS] at hoa
          obtain ⟨⟨hn1, hn2, hn3⟩, hoks⟩ := hoa
          have hksl : ks.length ≤ 1000000 := by
            have h1 := HPI.out.last
            have h2 := HNB.out
            have h3 := len_sizSs ks
            simp only [sizS] at h1; omega
          have HAL := Lib.hid (fun W (h : w.grownBy W none) => rightAlone_c F ⟨fg, fo, none⟩ op nm md nu ys ks ps q W (HLA.out.kept h) (hca.same (S := fun _ => False) (Fr2.none h) (fun h => h)) (hsa.kept h) hn1 hn2 hn3 hksl (fun k hk => Nat.lt_of_lt_of_le (HFB.out k hk) h.size) (Nat.lt_of_lt_of_le hfg h.size))
          have HSA := Lib.hid hsa; have HCA := Lib.hid hca
          simp only [SAt] at hsa
          obtain ⟨s9, pw9, nw9, cw9, pk, ck, rows, rfl, -, -, hgr, hls, hkf⟩ := hsa
          have HGR := Lib.hid hgr; have HLS := Lib.hid hls; have HKF := Lib.hid hkf; have HFL := Lib.hid hfl; have HOKK := Lib.hid hoks
          have hcw := hca.same (S := fun _ => False) (Fr2.none HG.out) (fun h => h)
          obtain ⟨g7, o7, e7, -, hcw⟩ := hcw
          simp only [Addr.mk.injEq, and_true] at e7
          obtain ⟨rfl, rfl⟩ := e7
          have c0 := hcw 0 _ rfl
          have c6 := hcw 6 _ rfl
          rw [Nat.add_zero] at c0
          obtain ⟨a0, a1, a2, hgs, hcn, -⟩ := OwnG.top2S hO
          rw [hL] at a0 a1
          obtain ⟨kn, hkn⟩ : ∃ kn, ks.length = kn := ⟨_, rfl⟩
          have HKN := Lib.hid hkn
          rw [hkn] at c6 hdk HAL hksl
          have HO1 := Lib.hid hO; have HPOP := Lib.hid hpop
          obtain ⟨n1, hn1e⟩ : ∃ n1, L + 1 = n1 := ⟨_, rfl⟩
          have HN1 := Lib.hid hn1e
          have hw1 : IntKind.i64.wrap ((n1 : Int) - 1) = (L : Int) := by rw [IntWalk.i64_in _ (by omega)]; omega
          have x1 : (0 : Int) ≤ (L : Int) := by omega
          have x2 : (L : Int) < (n1 : Int) := by omega
          have x3 : decide (L < n1) = true := decide_eq_true (by omega)
          have x4 : decide ((L : Int) < (n1 : Int)) = true := decide_eq_true x2
          have x5 : decide ((0 : Int) < (n1 : Int)) = true := decide_eq_true (by omega)
          have x6 : decide (0 < n1) = true := decide_eq_true (by omega)
          rw [hn1e] at HO1 ⊢
          obtain ⟨b1, hb1⟩ : ∃ b, mayB f op = b := ⟨_, rfl⟩
          obtain ⟨b2, hb2⟩ : ∃ b, aloneB op nm md nu ys kn = b := ⟨_, rfl⟩
          have HB1 := Lib.hid hb1; have HB2 := Lib.hid hb2
          rw [hb2] at HAL
          have hfgw : fg < wr.heap.size := Nat.lt_of_lt_of_le hfg HG.out.size
          have hcase : (d = 0 ∧ b1 = false) ∨ (d = 0 ∧ b1 = true ∧ b2 = false) ∨ (d = 0 ∧ b1 = true ∧ b2 = true) ∨ d ≠ 0 := by cases b1 <;> cases b2 <;> simp <;> omega
          clear hO hpop hlen hnc hcm hn1e hkn hb1 hb2 hca hcw hgr hls hkf hfl hoks hn1 hn2 hn3 HO
          rcases hcase with ⟨rfl, rfl⟩ | ⟨rfl, rfl, rfl⟩ | ⟨hd0, rfl, rfl⟩ | hd0
          focus
            have HRF : Hid (R = false) := Lib.hid (by rw [← HTD.out]; exact todo_bad (right_not (by rw [HB1.out]; rfl)))
            go_wp2_with fail
            refine (HMAY.out op wr).mono ?_
            rintro e w1 ⟨rfl, rfl⟩
            rw [HB1.out]
            go_wp2_with fail
            go_ret
            exact ⟨by rw [HRF.out]; rfl, HG.out⟩
          focus
            have HRF : Hid (R = false) := Lib.hid (by rw [← HTD.out]; exact todo_bad (right_not (by rw [HB1.out, HKN.out, HB2.out]; rfl)))
            go_wp2_with fail
            refine (HMAY.out op wr).mono ?_
            rintro e w1 ⟨rfl, rfl⟩
            rw [HB1.out]
            go_wp2_with fail
            refine (HAL.out _ HG.out).mono ?_
            rintro e w2 ⟨rfl, hg⟩
            have HG2 := Lib.hid (gb_trans HG.out hg)
            clear hg
            go_wp2_with fail
            go_ret
            exact ⟨by rw [HRF.out]; rfl, HG2.out⟩
          focus
            have e0 : ((d : Int) == 0) = true := by rw [hd0]; rfl
            have HH0 : Hid (d = 0 → rightB f (.mk op nm md nu ys ks ps) = rightBs f ks) := Lib.hid (fun _ => right_alone (by rw [HB1.out, HKN.out, HB2.out]; rfl))
            clear hd0
            go_wp2_with fail
            refine (HMAY.out op wr).mono ?_
            rintro e w1 ⟨rfl, rfl⟩
            rw [HB1.out]
            go_wp2_with fail
            refine (HAL.out _ HG.out).mono ?_
            rintro e w2 ⟨rfl, hg⟩
            have HG2 := Lib.hid (gb_trans HG.out hg)
            have HO2 := Lib.hid (HO1.out.kept hg); have HPO2 := Lib.hid (HPOP.out.kept hg)
            clear hg e0 a0 a1 a2 c0 c6 hgs hfgw HO1 HPOP HG
            go_wp2_with fail
          rotate_left 1
          focus
            have e0 : ((d : Int) == 0) = false := beq_eq_false_iff_ne.2 (by omega)
            have HH0 : Hid (d = 0 → rightB f (.mk op nm md nu ys ks ps) = rightBs f ks) := Lib.hid (fun h => absurd h hd0)
            clear hd0
            go_wp2_with fail
            have HG2 := HG; have HO2 := HO1; have HPO2 := HPOP
            clear e0 a0 a1 a2 c0 c6 hgs hfgw HO1 HPOP HG
            generalize wr = w2 at *
          all_goals
            obtain ⟨a0, a1, a2, hgs, hcn, -⟩ := OwnG.top2S HO2.out
            have hl0 : (P'.map prow).length = L := by rw [List.length_map]; exact HLG.out
            rw [hl0] at a0 a1 hcn
            obtain ⟨g7, o7, e7, -, hcw⟩ := HCA.out.same (S := fun _ => False) (Fr2.none HG2.out) (fun h => h)
            simp only [Addr.mk.injEq, and_true] at e7
            obtain ⟨rfl, rfl⟩ := e7
            have c6 := hcw 6 _ rfl
            rw [HKN.out] at c6
            have hfgw : fg < w2.heap.size := Nat.lt_of_lt_of_le hfg HG2.out.size
            clear hcw hl0
            go_quiet (fail)
            have hgd := gb_drewN (gb_refl w2 none) nq
            have HG3 := Lib.hid (gb_trans HG2.out hgd); have HO3 := Lib.hid (HO2.out.kept hgd); have HPO3 := Lib.hid (HPO2.out.kept hgd)
            have a0 : (w2.drewN nq).cell? ⟨ga, L * 2, none⟩ = some (.pointer (some ⟨fg, fo, none⟩)) := a0
            have a1 : (w2.drewN nq).cell? ⟨ga, L * 2 + 1, none⟩ = some (.int .i64 (d : Int)) := a1
            have a2 : ∀ j, (w2.drewN nq).frozen? ⟨ga, j, none⟩ = false := a2
            have hgs : ga < (w2.drewN nq).heap.size := hgs
            have hfgw : fg < (w2.drewN nq).heap.size := hfgw
            have c6 : (w2.drewN nq).cell? ⟨fg, fo + 6, none⟩ = some (.slice pk kn ck) := c6
            clear hgd HO2 HPO2 HG2
            generalize w2.drewN nq = w3 at *
            by_cases hd : d = kn
            · have e1 : (d == kn) = true := by rw [hd]; simp
              have e1' : ((d : Int) == (kn : Int)) = true := by rw [hd]; simp
              have HT3 : Hid (todoP f P' = R) := Lib.hid (by rw [← HTD.out]; exact (todo_pop HH0.out (by rw [hd]; exact HKN.out.symm)).symm)
              have HC3 : Hid (cstP P' < gk) := Lib.hid (Nat.lt_of_lt_of_le cst_pop hcg)
              clear hd
              go_wp2_with fail
              go_roundg (cstP P')
              case measure => exact HC3.out
              case rel => exact ⟨P', Nat.le_refl _, by have := HC3.out; omega, by rw [hL] at HPO3; exact HPO3, Lib.hid HPI.out.pop, HT3, Lib.hid (fun p hp => HOKS.out p (List.mem_append_left _ hp)), HG3⟩
            · have e1 : (d == kn) = false := beq_eq_false_iff_ne.2 hd
              have e1' : ((d : Int) == (kn : Int)) = false := beq_eq_false_iff_ne.2 (by omega)
              have hlt : d < kn := by omega
              clear hd
              obtain ⟨kx, hkx⟩ : ∃ kx, ks[d]? = some kx := ⟨ks[d]'(by rw [HKN.out]; exact hlt), List.getElem?_eq_getElem _⟩
              obtain ⟨qx, hqx, hsx⟩ := HLS.out.get hkx
              obtain ⟨gk', ok', rfl, hck⟩ := HGR.out.at hqx (fun a ha => by
                obtain ⟨a', h1, -, h2⟩ := HKF.out (fun e => by rw [e] at hkx; simp at hkx)
                rw [ha] at h1; injection h1 with h1; subst h1; exact h2)
              have HKX := Lib.hid hkx; have HSX := Lib.hid hsx; have HCK := Lib.hid hck
              have hgkw : gk' < w.heap.size := by obtain ⟨g1, o1, e, h, -⟩ := hck; injection e with e; subst e; exact h.1
              have HGK := Lib.hid hgkw
              have y1 : (0 : Int) ≤ (d : Int) := by omega
              have y2 : (d : Int) < (kn : Int) := by omega
              have y3 : decide (d < kn) = true := decide_eq_true hlt
              have y4 : decide ((d : Int) < (kn : Int)) = true := decide_eq_true y2
              have hw2 : IntKind.i64.wrap ((d : Int) + 1) = ((d + 1 : Nat) : Int) := by rw [IntWalk.i64_in _ (by omega)]; omega
              clear hkx hqx hsx hck hgkw
              go_wp2_with fail
              go_quiet (fail)
              have hgd := gb_drewN (gb_refl w3 none) nq
              have HG4 := Lib.hid (gb_trans HG3.out hgd); have HO4 := Lib.hid (HO3.out.kept hgd)
              have a0 : (w3.drewN nq).cell? ⟨ga, L * 2, none⟩ = some (.pointer (some ⟨fg, fo, none⟩)) := a0
              have a1 : (w3.drewN nq).cell? ⟨ga, L * 2 + 1, none⟩ = some (.int .i64 (d : Int)) := a1
              have a2 : ∀ j, (w3.drewN nq).frozen? ⟨ga, j, none⟩ = false := a2
              have hgs : ga < (w3.drewN nq).heap.size := hgs
              clear hgd c6 HO3 HPO3 HG3
              generalize w3.drewN nq = w4 at *
              obtain ⟨ko, hko⟩ : ∃ ko, ok' + d * 8 = ko := ⟨_, rfl⟩
              have HKO := Lib.hid hko
              rw [hko] at HCK ⊢
              have h5 := OwnG.last2S (u := .int .i64 ((d + 1 : Nat) : Int)) rfl HO4.out
              have hll : (P'.map prow).length = L := by rw [List.length_map]; exact HLG.out
              rw [hll] at h5
              have HO5 := Lib.hid h5.1; have HG5 := Lib.hid h5.2
              have hgab : base ≤ ga := HO4.out.blkS.1
              have HGAB := Lib.hid hgab
              have HPI5 : Hid (PathI F w N (P' ++ [(⟨fg, fo, none⟩, .mk op nm md nu ys ks ps, d + 1)] ++ [(⟨gk', ko, none⟩, kx, 0)])) := Lib.hid (HPI.out.step HKX.out HCK.out HSX.out)
              have HNE := Lib.hid (fun i p h => HPI.out.ne (i := i) (p := p) HKX.out HCK.out HSX.out h)
              obtain ⟨d1, hd1⟩ : ∃ d1, d + 1 = d1 := ⟨_, rfl⟩
              have HD1 := Lib.hid hd1
              rw [hd1] at hw2 HO5 HG5
              clear h5 hd1 hko hgab hll
              obtain ⟨m, hm⟩ : ∃ m, n1 / 2 = m := ⟨_, rfl⟩
              have HM := Lib.hid hm
              have hmn : m < n1 := by have := HN1.out; omega
              have z1 : (0 : Int) ≤ (m : Int) := by omega
              have z2 : (m : Int) < (n1 : Int) := by omega
              have z3 : decide (m < n1) = true := decide_eq_true hmn
              have z4 : decide ((m : Int) < (n1 : Int)) = true := decide_eq_true z2
              have hq : (n1 : Int).tdiv 2 = (m : Int) := by rw [← hm]; rfl
              obtain ⟨pm, hpm⟩ : ∃ pm, (P' ++ [(⟨fg, fo, none⟩, Sx.mk op nm md nu ys ks ps, d)])[m]? = some pm := ⟨(P' ++ [(⟨fg, fo, none⟩, Sx.mk op nm md nu ys ks ps, d)])[m]'(by rw [List.length_append, List.length_singleton, HLG.out, HN1.out]; exact hmn), List.getElem?_eq_getElem _⟩
              have hnem := HNE.out m pm hpm
              have hrow : ∃ dm, (P'.map prow ++ [[Value.pointer (some ⟨fg, fo, none⟩), Value.int .i64 (d1 : Int)]])[m]? = some [Value.pointer (some pm.1), Value.int .i64 dm] := by
                rcases snoc_get hpm with ⟨h1, h2⟩ | ⟨h1, h2⟩
                · exact ⟨(pm.2.2 : Int), by rw [List.getElem?_append_left (by rw [List.length_map]; exact h1), List.getElem?_map, h2]; rfl⟩
                · subst h2
                  exact ⟨(d1 : Int), by rw [h1, List.getElem?_append_right (by rw [List.length_map]; exact Nat.le_refl _), List.length_map, Nat.sub_self]; rfl⟩
              obtain ⟨dm, hrow⟩ := hrow
              have cm := HO5.out.cellS hrow (i := 0) rfl
              rw [Nat.add_zero] at cm
              have hpmm := List.mem_of_getElem? hpm
              obtain ⟨rm, cqm, -, -⟩ := HPI.out.at_ pm hpmm
              obtain ⟨gm, om, em, ⟨-, hflm⟩, -⟩ := cqm
              have hflk : Flat w gk' := by
                obtain ⟨g8, o8, ek, ⟨-, h8⟩, -⟩ := HCK.out
                injection ek with ek1 ek2; subst ek1; exact h8
              rw [em] at cm hnem
              go_upto_region 10 with fail
              have hs5 : Fr2 (fun k => ga = k) w4 (w4.setCell ⟨ga, L * 2 + 1, none⟩ (.int .i64 (d1 : Int))) := Fr2.of HG5.out (fun k e => by injection e)
              have HG6 := Lib.hid (Fr2.after HG4.out hs5 (fun j hj => by have hj : ga = j := hj; have := HGAB.out; have := HBA.out; omega))
              clear hm hpm hrow hpmm em hs5 HG5 HO4 HG4 a0 a1 a2
              generalize (w4.setCell ⟨ga, L * 2 + 1, none⟩ (.int .i64 (d1 : Int))) = w5 at *
              have cm : w5.cell? ⟨ga, m * 2, none⟩ = some (.pointer (some ⟨gm, om, none⟩)) := cm
              have hEQ := ptr_ne (w := w5) hnem (hflk.same (S := fun _ => False) (Fr2.none HG6.out) (fun h => h)) (hflm.same (S := fun _ => False) (Fr2.none HG6.out) (fun h => h))
              have hwm : IntKind.i64.wrap (m : Int) = (m : Int) := IntWalk.i64_in _ (by have := HN1.out; omega)
              have hwm2 : wrap64 (m : Int) = (m : Int) := by have := HN1.out; unfold wrap64; omega
              clear hnem hflk hflm hmn
              go_upto_region 12 with fail
              have hbk := heap_alloc_new w5 (.cells #[.pointer (some ⟨gk', ko, none⟩), .int .i64 0] 125)
              have hsa5 : (w5.alloc (.cells #[.pointer (some ⟨gk', ko, none⟩), .int .i64 0] 125)).heap.size = w5.heap.size + 1 := by simp
              have HBK := Lib.hid hbk; have HSA5 := Lib.hid hsa5
              have HLM : Hid ((P'.map prow ++ [[Value.pointer (some ⟨fg, fo, none⟩), Value.int .i64 (d1 : Int)]]).length = n1) := Lib.hid (by rw [List.length_append, List.length_map, HLG.out]; exact HN1.out)
              have HLX : Hid ((P'.map prow ++ [[Value.pointer (some ⟨fg, fo, none⟩), Value.int .i64 (d1 : Int)]]).length ≤ 1000000) := Lib.hid (by
                rw [HLM.out]
                have h1 := HPI.out.last
                have h2 := HNB.out
                have h3 := sizS_pos (Sx.mk op nm md nu ys ks ps)
                rw [HLG.out] at h1
                have h4 := HN1.out
                simp only at h1
                omega)
              have HBS : Hid (base ≤ (w5.alloc (.cells #[.pointer (some ⟨gk', ko, none⟩), .int .i64 0] 125)).heap.size) := Lib.hid (by rw [HSA5.out]; have := HG6.out.size; have := HBA.out; omega)
              have HO6 : Hid (OwnG 2 125 w5 base (.slice (some ⟨ga, 0, none⟩) n1 c) (P'.map prow ++ [[Value.pointer (some ⟨fg, fo, none⟩), Value.int .i64 (d1 : Int)]])) := Lib.hid HO5.out
              clear hbk hsa5 cm hEQ hwm hwm2 hq HO5
              go_wp2_with (at_builtin; go_loud (refine wpList_appGl (s := 2) (t := 126) (T := 125) (by decide) Tryz.underlying126 infoPl rfl (by omega) rfl _ _ rfl base (P'.map prow ++ [[Value.pointer (some ⟨fg, fo, none⟩), Value.int .i64 (d1 : Int)]]) [.pointer (some ⟨gk', ko, none⟩), .int .i64 0] rfl (fun u hu => by simp at hu; rcases hu with rfl | rfl <;> rfl) (.slice (some ⟨ga, 0, none⟩) n1 c) rfl (OwnG.kept HO6.out (World.grownBy_alloc _ _ none)) w5.heap.size _ rfl HBK.out rfl HLX.out HBS.out (w5.heap.size + 1) HSA5.out ?_))
              intro g9 cap9 w9 hO9 hg9 hl9
              try rw [HN1.out] at hO9 ⊢
              have HG9 : Hid (w.grownBy w9 none) := Lib.hid (Fr2.after (gb_trans HG6.out (World.grownBy_alloc _ _ none)) (Fr2.of hg9 (S := fun k => ga = k) (fun k e => Option.some.inj (show some ga = some k from e))) (fun j hj => by have hj : ga = j := hj; have := HGAB.out; have := HBA.out; omega))
              have HO9 : Hid (OwnG 2 125 w9 base (.slice (some ⟨g9, 0, none⟩) (n1 + 1) cap9) ((P' ++ [((⟨fg, fo, none⟩ : Addr), Sx.mk op nm md nu ys ks ps, d + 1)] ++ [((⟨gk', ko, none⟩ : Addr), kx, 0)]).map prow)) := Lib.hid (by
                rw [List.map_append, List.map_append, HD1.out, List.append_assoc]; exact hO9)
              have HT9 : Hid (todoP f (P' ++ [((⟨fg, fo, none⟩ : Addr), Sx.mk op nm md nu ys ks ps, d + 1)] ++ [((⟨gk', ko, none⟩ : Addr), kx, 0)]) = R) := Lib.hid (by
                rw [← HTD.out]; exact (todo_push HH0.out HKX.out).symm)
              have HC9 : Hid (cstP (P' ++ [((⟨fg, fo, none⟩ : Addr), Sx.mk op nm md nu ys ks ps, d + 1)] ++ [((⟨gk', ko, none⟩ : Addr), kx, 0)]) + 1 ≤ gk) := Lib.hid (by
                have h := cst_push (P := P') (a := ⟨fg, fo, none⟩) (b := ⟨gk', ko, none⟩) (x := Sx.mk op nm md nu ys ks ps) HKX.out
                omega)
              have HOK9 : Hid (∀ p ∈ P' ++ [((⟨fg, fo, none⟩ : Addr), Sx.mk op nm md nu ys ks ps, d + 1)] ++ [((⟨gk', ko, none⟩ : Addr), kx, 0)], okS p.2.1) := Lib.hid (fun p hp => by
                simp only [List.append_assoc, List.cons_append, List.nil_append, List.mem_append, List.mem_cons, List.not_mem_nil, or_false] at hp
                rcases hp with hp | rfl | rfl
                · exact HOKS.out p (List.mem_append_left _ hp)
                · exact HOKS.out (⟨fg, fo, none⟩, Sx.mk op nm md nu ys ks ps, d) (by simp)
                · exact okSs_get HOKK.out HKX.out)
              clear hO9 hg9 hl9 HO6 HBK HSA5 HBS HLX HLM
              go_wp2_with fail
              go_roundg (cstP (P' ++ [((⟨fg, fo, none⟩ : Addr), Sx.mk op nm md nu ys ks ps, d + 1)] ++ [((⟨gk', ko, none⟩ : Addr), kx, 0)]))
              case measure => have := HC9.out; omega
              case rel => exact ⟨_, Nat.le_refl _, by have := HC9.out; omega, HO9, HPI5, HT9, HOK9, HG9⟩
end Go.Proofs.YtddccnpohpaofaaGreatDoor
