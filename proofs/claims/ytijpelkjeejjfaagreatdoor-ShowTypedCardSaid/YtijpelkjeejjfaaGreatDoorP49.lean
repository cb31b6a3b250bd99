/- Lemmas. -/
import Derived.Test.YtijpelkjeejjfaaGreatDoorP27
set_option linter.unusedVariables false
set_option linter.unusedSimpArgs false
namespace Go.Proofs.YtijpelkjeejjfaaGreatDoor
open Go.RowKit

theorem rightBs_pre {f : Bool} : ∀ {l : List Sx} (j : Nat), rightBs f l = true → rightBs f (l.take j) = true
  | [], j, h => by simpa using h
  | x :: l, 0, h => by simp [rightBs]
  | x :: l, j + 1, h => by
    simp only [rightBs, Bool.and_eq_true] at h
    simp only [List.take_succ_cons, rightBs, h.1, rightBs_pre j h.2, Bool.and_self]
set_option maxRecDepth 100000 in
set_option maxHeartbeats 16000000 in
theorem rright_c (f : Bool) : ∀ (n : Nat) (x : Sx), sizS x ≤ n → ∀ (F : Nat → Prop) (q : List Value) (w : World), RSt F w x q → okS x → n ≤ 1000000 →
    Calls Tryz.prog 6 #[.agg q.toArray, .bool f] w (TruePost (rightB f x) w) := by
  intro n
  induction n with
  | zero => intro x hn; have := sizS_pos x; omega
  | succ n ih =>
    intro x hn F q w hx hok hnb
    cases x with
    | mk op nm md nu ys ks ps =>
      simp only [RSt] at hx
      obtain ⟨pk, ck, rows, rfl, hg, hls, -⟩ := hx
      simp only [okS] at hok
      obtain ⟨⟨hn1, hn2, -⟩, hoks⟩ := hok
      have HNM := Lib.hid (fun u n W => rnames_c op nm md u ys pk n ck ps W hn1 hn2)
      have HCT := Lib.hid (fun n W => rcount_c op n W)
      obtain ⟨r1, hr1⟩ : ∃ r1 : Sx → Bool, r1 = rightB f := ⟨_, rfl⟩
      obtain ⟨rb, hrb⟩ : ∃ rb : List Sx → Bool, rb = rightBs f := ⟨_, rfl⟩
      have IH : Hid (∀ x, sizS x ≤ n → ∀ (F : Nat → Prop) (q : List Value) (w : World), RSt F w x q → okS x → Calls Tryz.prog 6 #[.agg q.toArray, .bool f] w (TruePost (r1 x) w)) := Lib.hid (fun x h F q w h1 h2 => by rw [hr1]; exact ih x h F q w h1 h2 (by omega))
      have HTK : Hid (∀ (j : Nat) (x : Sx), ks[j]? = some x → rb (ks.take (j + 1)) = (rb (ks.take j) && r1 x)) := Lib.hid (fun j x h => by rw [hr1, hrb]; exact rightBs_take h)
      have HR0 : Hid (rb (ks.take 0) = true) := Lib.hid (by rw [hrb]; rfl)
      have HPRE : Hid (∀ j, rb ks = true → rb (ks.take j) = true) := Lib.hid (fun j h => by rw [hrb] at h ⊢; exact rightBs_pre j h)
      simp only [sizS] at hn
      have hkb : ks.length ≤ 1000000 := by have := len_sizSs ks; omega
      obtain ⟨kl, hkl⟩ : ∃ kl, ks.length = kl := ⟨_, rfl⟩
      have HKL := Lib.hid hkl; have HG := Lib.hid hg; have HLS := Lib.hid hls; have HN := Lib.hid hn; have HOKS := Lib.hid hoks
      have hR : rightB f (.mk op nm md nu ys ks ps) = (mayB f op && aloneB op nm md nu ys kl && rb ks) := by rw [← hkl, hrb]; rfl
      obtain ⟨R, hRe⟩ : ∃ R, rightB f (.mk op nm md nu ys ks ps) = R := ⟨_, rfl⟩
      rw [hRe] at hR ⊢
      have HR := Lib.hid hR
      unfold strV rval at *
      rw [hkl] at hkb ⊢
      obtain ⟨u, hu⟩ : ∃ u : ByteArray, (⟨(Zd.txtL nu).toArray⟩ : ByteArray) = u := ⟨_, rfl⟩
      have HU : Hid (u.data.toList = Zd.txtL nu) := Lib.hid (by rw [← hu])
      rw [hu]
      clear hu
      clear hg hls hn hoks ih hn1 hn2 hkl hR hRe hr1 hrb
      by_cases h1 : op < 1
      · have d1 : decide (op < 1) = true := decide_eq_true h1
        have HRF : Hid (R = false) := Lib.hid (by rw [HR.out]; unfold aloneB; rw [decide_eq_false (by omega : ¬ 1 ≤ op)]; simp)
        clear h1
        go_enter Tryz.func6, Tryz.ntmps6
        go_wp2_with fail
        go_ret
        exact ⟨by rw [HRF.out]; rfl, (by repeat (first | with_reducible exact gb_refl _ _ | with_reducible refine gb_drew ?_ | with_reducible refine gb_alloc ?_ _))⟩
      have d1 : decide (op < 1) = false := decide_eq_false h1
      by_cases h2 : 24 < op
      · have d2 : decide (24 < op) = true := decide_eq_true h2
        have HRF : Hid (R = false) := Lib.hid (by rw [HR.out]; unfold aloneB; rw [decide_eq_false (by omega : ¬ op ≤ 24)]; simp)
        clear h1 h2
        go_enter Tryz.func6, Tryz.ntmps6
        go_wp2_with fail
        go_ret
        exact ⟨by rw [HRF.out]; rfl, (by repeat (first | with_reducible exact gb_refl _ _ | with_reducible refine gb_drew ?_ | with_reducible refine gb_alloc ?_ _))⟩
      have d2 : decide (24 < op) = false := decide_eq_false h2
      by_cases h3 : mayB f op = false
      · have HRF : Hid (R = false) := Lib.hid (by rw [HR.out, h3]; simp)
        cases f
        · have h4 : op = 4 := by simpa [mayB] using h3
          subst h4
          clear h1 h2 h3 d1 d2
          go_enter Tryz.func6, Tryz.ntmps6
          go_wp2_with fail
          go_ret
          exact ⟨by rw [HRF.out]; rfl, (by repeat (first | with_reducible exact gb_refl _ _ | with_reducible refine gb_drew ?_ | with_reducible refine gb_alloc ?_ _))⟩
        · have h4 : ¬ op < 21 := by simpa [mayB] using h3
          have d3 : decide (20 < op) = true := decide_eq_true (by omega)
          clear h1 h2 h3 h4
          go_enter Tryz.func6, Tryz.ntmps6
          go_wp2_with fail
          go_ret
          exact ⟨by rw [HRF.out]; rfl, (by repeat (first | with_reducible exact gb_refl _ _ | with_reducible refine gb_drew ?_ | with_reducible refine gb_alloc ?_ _))⟩
      have h3 : mayB f op = true := by simpa using h3
      have HR2 : Hid (R = (countB op kl && namesB op nm md && numB op nu && (decide (op = 2) || !ys) && rb ks)) := Lib.hid (by
        rw [HR.out, h3]; unfold aloneB; rw [decide_eq_true (by omega : 1 ≤ op), decide_eq_true (by omega : op ≤ 24)]; simp)
      have hw : (f = true ∧ decide (20 < op) = false) ∨ (f = false ∧ (op == 4) = false) := by
        cases f
        · right; exact ⟨rfl, beq_eq_false_iff_ne.2 (by simpa [mayB] using h3)⟩
        · left; exact ⟨rfl, decide_eq_false (by have : op < 21 := by simpa [mayB] using h3
                                                omega)⟩
      clear h1 h2 h3
      obtain ⟨b1, hb1⟩ : ∃ b, namesB op nm md = b := ⟨_, rfl⟩
      obtain ⟨b2, hb2⟩ : ∃ b, countB op kl = b := ⟨_, rfl⟩
      have HB1 := Lib.hid hb1; have HB2 := Lib.hid hb2
      rw [hb1] at HNM
      rw [hb1, hb2] at HR2
      clear hb1 hb2
      rcases hw with ⟨rfl, d3⟩ | ⟨rfl, d3⟩
      all_goals
        go_enter Tryz.func6, Tryz.ntmps6
        go_wp2_with fail
        have hgA := World.grownBy_alloc w (.cells #[.int .i64 op, .string ⟨nm.toArray⟩, .string ⟨md.toArray⟩, .string u, .bool ys, .slice pk kl ck, .int .i64 ps] 34) none
        have hA := heap_alloc_new w (.cells #[.int .i64 op, .string ⟨nm.toArray⟩, .string ⟨md.toArray⟩, .string u, .bool ys, .slice pk kl ck, .int .i64 ps] 34)
        generalize (w.alloc (.cells #[.int .i64 op, .string ⟨nm.toArray⟩, .string ⟨md.toArray⟩, .string u, .bool ys, .slice pk kl ck, .int .i64 ps] 34)) = WA at *
        obtain ⟨b, hb⟩ : ∃ b, w.heap.size = b := ⟨_, rfl⟩
        rw [hb] at hA ⊢
        have HAA := Lib.hid hA; have HGA := Lib.hid hgA
        clear hA hgA hb
        refine (HNM.out _ kl WA).mono ?_
        rintro e w1 ⟨rfl, hg1⟩
        have HG1 := Lib.hid hg1
        obtain ⟨c0, c1, c2, c3, c4, c5, c6, hbw⟩ := cells7x (bx HG1.out HAA.out)
        clear hg1
        cases b1
        · have HRF : Hid (R = false) := Lib.hid (by rw [HR2.out]; simp)
          go_wp2_with fail
          go_ret
          exact ⟨by rw [HRF.out]; rfl, gb_trans HGA.out HG1.out⟩
        go_wp2_with fail
        refine (HCT.out kl _).mono ?_
        rintro e w2 ⟨rfl, hg2⟩
        rw [HB2.out]
        have HG2 := Lib.hid (gb_trans HG1.out hg2)
        obtain ⟨c0, c1, c2, c3, c4, c5, c6, hbw⟩ := cells7x (bx HG2.out HAA.out)
        clear hg2
        cases b2
        · have HRF : Hid (R = false) := Lib.hid (by rw [HR2.out]; simp)
          go_wp2_with fail
          go_ret
          exact ⟨by rw [HRF.out]; rfl, gb_trans HGA.out HG2.out⟩
        have hw : (op = 1 ∧ nu < 0) ∨ (op = 1 ∧ 0 ≤ nu ∧ 60 < u.size) ∨ (op = 1 ∧ 0 ≤ nu ∧ u.size ≤ 60 ∧ ys = true) ∨ (op ≠ 1 ∧ nu ≠ 0) ∨ (op ≠ 1 ∧ op ≠ 2 ∧ nu = 0 ∧ ys = true) ∨ (op = 1 ∧ 0 ≤ nu ∧ u.size ≤ 60 ∧ ys = false) ∨ (op = 2 ∧ nu = 0) ∨ (op ≠ 1 ∧ op ≠ 2 ∧ nu = 0 ∧ ys = false) := by
          cases ys <;> simp <;> omega
        have hup : 0 < u.size := by
          obtain ⟨hd, tl, htx, -⟩ := txt_head nu
          rw [← list_len, HU.out, htx]; simp
        have hu0 : ((u[0].toNat : Int) == 45) = decide (nu < 0) := by
          obtain ⟨hd, tl, htx, hneg⟩ := txt_head nu
          have h1 := list_cons hup
          rw [HU.out, htx] at h1
          injection h1 with h1
          rw [← h1]
          by_cases h : nu < 0
          · rw [hneg.2 h, decide_eq_true h]; rfl
          · rw [decide_eq_false h]
            refine beq_eq_false_iff_ne.2 (fun e => h (hneg.1 ?_))
            have e2 : hd.toNat = 45 := by omega
            exact UInt8.toNat.inj e2
        have hxu : (u.size : Int) = ((u.size : Nat) : Int) := rfl
        have y0 : (0 : Int) < (u.size : Int) := by omega
        rcases hw with ⟨rfl, hz⟩ | ⟨rfl, hz, hs⟩ | ⟨rfl, hz, hs, rfl⟩ | ⟨ho, hz⟩ | ⟨ho, ho2, hz, rfl⟩ | ⟨rfl, hz, hs, rfl⟩ | ⟨rfl, hz⟩ | ⟨ho, ho2, hz, rfl⟩
        focus
          have HRF : Hid (R = false) := Lib.hid (by rw [HR2.out]; unfold numB; rw [if_pos rfl, decide_eq_false (by omega : ¬ 0 ≤ nu)]; simp)
          rw [decide_eq_true hz] at hu0
          clear hz
          go_wp2_with fail
          go_ret
          exact ⟨by rw [HRF.out]; rfl, gb_trans HGA.out HG2.out⟩
        focus
          have HRF : Hid (R = false) := Lib.hid (by rw [HR2.out]; unfold numB; rw [if_pos rfl, ← HU.out, list_len, decide_eq_false (by omega : ¬ u.size ≤ 60)]; simp)
          rw [decide_eq_false (by omega : ¬ nu < 0)] at hu0
          have z1 : decide (60 < u.size) = true := decide_eq_true hs
          have z2 : decide ((60 : Int) < (u.size : Int)) = true := decide_eq_true (by omega)
          clear hz hs
          go_wp2_with fail
          go_ret
          exact ⟨by rw [HRF.out]; rfl, gb_trans HGA.out HG2.out⟩
        focus
          have HRF : Hid (R = false) := Lib.hid (by rw [HR2.out]; simp)
          rw [decide_eq_false (by omega : ¬ nu < 0)] at hu0
          have z1 : decide (60 < u.size) = false := decide_eq_false (by omega)
          have z2 : decide ((60 : Int) < (u.size : Int)) = false := decide_eq_false (by omega)
          clear hz hs
          go_wp2_with fail
          go_ret
          exact ⟨by rw [HRF.out]; rfl, gb_trans HGA.out HG2.out⟩
        focus
          have d4 : (op == 1) = false := beq_eq_false_iff_ne.2 ho
          have d4' : (op != 1) = true := by rw [bne, d4]; rfl
          have HRF : Hid (R = false) := Lib.hid (by rw [HR2.out]; unfold numB; rw [if_neg ho, decide_eq_false hz]; simp)
          have hul : ¬ u.toList = [48] := by rw [toList_data, HU.out]; exact fun e => hz ((txt_none nu).1 e)
          clear hz
          go_wp2_with fail
          go_ret
          exact ⟨by rw [HRF.out]; rfl, gb_trans HGA.out HG2.out⟩
        focus
          have d4 : (op == 1) = false := beq_eq_false_iff_ne.2 ho
          have d4' : (op != 1) = true := by rw [bne, d4]; rfl
          have d5 : (op == 2) = false := beq_eq_false_iff_ne.2 ho2
          have d5' : (op != 2) = true := by rw [bne, d5]; rfl
          have HRF : Hid (R = false) := Lib.hid (by rw [HR2.out, decide_eq_false ho2]; simp)
          have hul : u.toList = [48] := by rw [toList_data, HU.out]; exact (txt_none nu).2 hz
          clear hz ho ho2
          go_wp2_with fail
          go_ret
          exact ⟨by rw [HRF.out]; rfl, gb_trans HGA.out HG2.out⟩
        focus
          have HRT : Hid (R = rb ks) := Lib.hid (by rw [HR2.out]; unfold numB; rw [if_pos rfl, decide_eq_true hz, ← HU.out, list_len, decide_eq_true hs]; simp)
          rw [decide_eq_false (by omega : ¬ nu < 0)] at hu0
          have z1 : decide (60 < u.size) = false := decide_eq_false (by omega)
          have z2 : decide ((60 : Int) < (u.size : Int)) = false := decide_eq_false (by omega)
          clear hz hs
          go_wp2_with fail
        rotate_left 1
        focus
          have HRT : Hid (R = rb ks) := Lib.hid (by rw [HR2.out]; unfold numB; rw [if_neg (by decide), decide_eq_true hz]; simp)
          have hul : u.toList = [48] := by rw [toList_data, HU.out]; exact (txt_none nu).2 hz
          clear hz
          go_wp2_with fail
        rotate_left 1
        focus
          have d4 : (op == 1) = false := beq_eq_false_iff_ne.2 ho
          have d4' : (op != 1) = true := by rw [bne, d4]; rfl
          have d5 : (op == 2) = false := beq_eq_false_iff_ne.2 ho2
          have d5' : (op != 2) = true := by rw [bne, d5]; rfl
          have HRT : Hid (R = rb ks) := Lib.hid (by rw [HR2.out]; unfold numB; rw [if_neg ho, decide_eq_true hz]; simp)
          have hul : u.toList = [48] := by rw [toList_data, HU.out]; exact (txt_none nu).2 hz
          clear hz ho ho2
          go_wp2_with fail
        all_goals
          clear c0 c1 c2 c3 c4 c5 c6 HNM HCT HR HR2 HB1 HB2 hu0 hxu y0
          go_loopw [5] (fun i wr => ∃ k : Nat, k ≤ kl ∧ i = .int .i64 k ∧ Hid (rb (ks.take k) = true) ∧ Hid (WA.grownBy wr none)) (fun i _ => kl - (intOf i).toNat)
          case atStart => exact ⟨0, Nat.zero_le _, rfl, HR0, HG2⟩
          case round =>
            obtain ⟨k, hk, rfl, HRK, HGR⟩ := hrel
            obtain ⟨c0, c1, c2, c3, c4, c5, c6, hbw⟩ := cells7x (bx HGR.out HAA.out)
            have HGW : Hid (w.grownBy wr none) := Lib.hid (gb_trans HGA.out HGR.out)
            by_cases hlt : k < kl
            · have y3 : decide ((k : Int) < (kl : Int)) = true := decide_eq_true (by omega)
              have y4 : decide (k < kl) = true := decide_eq_true hlt
              obtain ⟨x, hx⟩ : ∃ x, ks[k]? = some x := ⟨ks[k]'(by rw [HKL.out]; exact hlt), List.getElem?_eq_getElem _⟩
              obtain ⟨qx, hqx, hEx⟩ := HLS.out.get hx
              have HNX := Lib.hid (HTK.out k x hx)
              have HOX := Lib.hid (okSs_get HOKS.out hx)
              have HSX : Hid (sizS x ≤ n) := Lib.hid (by have := sizSs_mem hx; have := HN.out; omega)
              have HEX := Lib.hid (hEx.kept HGW.out)
              obtain ⟨g, off, rfl, hgl, hc⟩ := HG.out.resolve_left (fun e => by rw [e] at hqx; simp at hqx)
              have HIH := Lib.hid (fun W h => IH.out x HSX.out F qx W h HOX.out)
              obtain ⟨rx, hrx⟩ : ∃ rx, r1 x = rx := ⟨_, rfl⟩
              rw [hrx] at HNX HIH
              cases x with
              | mk op' nm' md' nu' ys' ks' ps' =>
                simp only [RSt] at hEx
                obtain ⟨pk', ck', rows', rfl, -⟩ := hEx
                unfold strV at *
                generalize (⟨nm'.toArray⟩ : ByteArray) = y' at *
                generalize (⟨md'.toArray⟩ : ByteArray) = z' at *
                generalize (⟨(Zd.txtL nu').toArray⟩ : ByteArray) = u' at *
                generalize ks'.length = kl' at *
                have hc := fun i v h => HGW.out.cell (hc k _ hqx i v h) (by simp)
                have k0 := hc 0 _ rfl
                have k1 := hc 1 _ rfl
                have k2 := hc 2 _ rfl
                have k3 := hc 3 _ rfl
                have k4 := hc 4 _ rfl
                have k5 := hc 5 _ rfl
                have k6 := hc 6 _ rfl
                rw [Nat.add_zero] at k0
                have hgl := Nat.lt_of_lt_of_le hgl HGW.out.size
                clear hx hqx hc hrx
                go_wp2_with fail
                refine (HIH.out _ HEX.out).mono ?_
                rintro e w7 ⟨rfl, hg7⟩
                have HG7 : Hid (WA.grownBy w7 none) := Lib.hid (gb_trans HGR.out hg7)
                clear hg7 HIH HEX k0 k1 k2 k3 k4 k5 k6 hgl
                cases rx
                · have HRF : Hid (R = false) := Lib.hid (by
                    rw [HRT.out]
                    cases hb : rb ks with
                    | false => rfl
                    | true =>
                      have := HPRE.out (k + 1) hb
                      rw [HNX.out] at this; simp at this)
                  go_wp2_with fail
                  go_ret
                  exact ⟨by rw [HRF.out]; rfl, gb_trans HGA.out HG7.out⟩
                · have HRK2 : Hid (rb (ks.take (k + 1)) = true) := Lib.hid (by rw [HNX.out, HRK.out]; rfl)
                  go_wp2_with fail
                  go_roundw
                  case rel => exact ⟨k + 1, by omega, by go_num, HRK2, HG7⟩
                  case measure => (simp [intOf] <;> omega)
            · obtain rfl : k = kl := by omega
              have HRF : Hid (R = true) := Lib.hid (by
                rw [HRT.out, ← HRK.out, List.take_of_length_le (by rw [HKL.out]; exact Nat.le_refl _)])
              go_wp2_with fail
              go_ret
              exact ⟨by rw [HRF.out]; rfl, HGW.out⟩
end Go.Proofs.YtijpelkjeejjfaaGreatDoor
