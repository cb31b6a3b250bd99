/- The document's reading of numbers. -/
import Derived.Test.YtkonfkcaefjabaaRef1
import Derived.Deep.CutBlock
import Derived.Deep.DeepCutAuto
namespace Go.Proofs.Ytkonfkcaefjabaa
open Go.RowKit Mx

theorem md_nil : minus [] = false ∧ digs [] = [] := ⟨rfl, rfl⟩
theorem md_cons (t : List UInt8) : minus (45 :: t) = true ∧ digs (45 :: t) = t := by
  simp [minus, digs, Lib.hasPrefix, Lib.trimPrefix]
theorem md_other {x : UInt8} {t : List UInt8} (h : x.toNat ≠ 45) : minus (x :: t) = false ∧ digs (x :: t) = x :: t := by
  have hx : x ≠ 45 := fun e => h (by rw [e]; rfl)
  have h1 : Lib.hasPrefix (x :: t) [45] = false := by
    have : ((45 : UInt8) == x) = false := beq_eq_false_iff_ne.2 (fun e => hx e.symm)
    simp [Lib.hasPrefix, List.isPrefixOf, this]
  exact ⟨h1, by unfold digs Lib.trimPrefix; rw [h1]; rfl⟩

theorem md45 {l : List UInt8} (h : 0 < l.length) (hb : l[0].toNat = 45) : minus l = true ∧ digs l = l.drop 1 := by
  match l, h, hb with
  | x :: t, _, hb =>
    obtain rfl : x = 45 := UInt8.toNat_inj.1 hb
    exact md_cons t
theorem mdne {l : List UInt8} (h : 0 < l.length) (hb : l[0].toNat ≠ 45) : minus l = false ∧ digs l = l := by
  match l, h, hb with
  | x :: t, _, hb => exact md_other hb

theorem tail_list (s : ByteArray) : (s.extract 1 s.size).data.toList = s.data.toList.drop 1 := by
  rw [ByteArray.data_extract, Array.toList_extract]
  show (s.data.toList.drop 1).take (s.size - 1) = _
  rw [List.take_of_length_le]
  rw [List.length_drop, Array.length_toList]
  exact Nat.le_refl _

/-- The j-th digit. -/
def dgt (D : List UInt8) (j : Nat) : Nat := (D.getD j 0).toNat - 48

theorem dgt_get {D : List UInt8} {j : Nat} (h : j < D.length) : dgt D j = D[j].toNat - 48 := by
  unfold dgt; rw [List.getD_eq_getElem?_getD, List.getElem?_eq_getElem h]; rfl

theorem valL_V (D : List UInt8) : ∀ k, k ≤ D.length → valL (D.take k) = V 10 (fun j => dgt D (k - 1 - j)) 0 k
  | 0, _ => by simp [valL, V]
  | k + 1, h => by
    rw [valL_take (by omega), valL_V D k (by omega), V_front, ← dgt_get]
    simp only [Nat.add_sub_cancel]
    rw [V_congr (f := fun j => dgt D (k - j)) (g := fun j => dgt D (k - 1 - j)) (o := 1) (p := 0) (fun j hj => by
      show dgt D (k - (1 + j)) = dgt D (k - 1 - (0 + j))
      congr 1; omega)]
    show _ = dgt D (k - 0) + _
    rw [Nat.sub_zero]; omega

theorem valL_all (D : List UInt8) : valL D = V 10 (fun j => dgt D (D.length - 1 - j)) 0 D.length := by
  have := valL_V D D.length (Nat.le_refl _)
  rwa [List.take_length] at this

theorem pe_big {l : List UInt8} (h : 60 < (digs l).length) : parseE l = 11 := by unfold parseE; rw [if_pos h]
theorem pe_nil {l : List UInt8} (h : (digs l).length = 0) : parseE l = 10 := by
  have : digs l = [] := List.eq_nil_of_length_eq_zero h
  unfold parseE; rw [this]; rfl
theorem pe_bad {l : List UInt8} (h : (digs l).length ≤ 60) {j : Nat} (hj : j < (digs l).length) (hb : (digs l)[j].toNat < 48 ∨ 57 < (digs l)[j].toNat) : parseE l = 10 := by
  have : plain (digs l) = false := by
    rcases hp : plain (digs l) with _ | _
    · rfl
    · have := plain_dig hp j hj; omega
  unfold parseE; rw [if_neg (by omega), if_pos (.inl this)]
theorem pe_zero {l : List UInt8} (h : (digs l).length ≤ 60) (h0 : 0 < (digs l).length) (hz : (digs l)[0].toNat = 48) (hm : 1 < (digs l).length ∨ minus l = true) : parseE l = 10 := by
  have e0 : (digs l)[0] = 48 := UInt8.toNat_inj.1 hz
  by_cases h1 : 1 < (digs l).length
  · have : plain (digs l) = false := by
      unfold plain
      rw [decide_eq_false (p := digs l = [48]) (fun e => by rw [e] at h1; simp at h1), List.head?_eq_getElem?, List.getElem?_eq_getElem h0, e0]
      simp
    unfold parseE; rw [if_neg (by omega), if_pos (.inl this)]
  · have hm : minus l = true := by rcases hm with h | h; omega; exact h
    have : digs l = [48] := by
      apply List.ext_getElem
      · simp; omega
      · intro j h1 h2
        obtain rfl : j = 0 := by omega
        rw [e0]; rfl
    unfold parseE; rw [if_neg (by omega), if_pos (.inr ⟨hm, this⟩)]
theorem pe_ok {l : List UInt8} (h : (digs l).length ≤ 60) (h0 : 0 < (digs l).length) (hz : (digs l)[0].toNat = 48 → (digs l).length = 1 ∧ minus l = false) (hd : ∀ j (hj : j < (digs l).length), 48 ≤ (digs l)[j].toNat ∧ (digs l)[j].toNat ≤ 57) : parseE l = 0 := by
  have hp : plain (digs l) = true := by
    unfold plain
    rw [Bool.and_eq_true]
    refine ⟨List.all_eq_true.2 fun x hx => ?_, ?_⟩
    · obtain ⟨j, hj, rfl⟩ := List.getElem_of_mem hx
      exact decide_eq_true (hd j hj)
    · by_cases e : (digs l)[0].toNat = 48
      · have e0 : (digs l)[0] = 48 := UInt8.toNat_inj.1 e
        have : digs l = [48] := by
          apply List.ext_getElem
          · simp; exact (hz e).1
          · intro j h1 h2
            obtain rfl : j = 0 := by have := (hz e).1; omega
            rw [e0]; rfl
        rw [decide_eq_true this]; rfl
      · rw [Bool.or_eq_true]
        refine .inr ?_
        rw [decide_eq_true (List.ne_nil_of_length_pos h0), List.head?_eq_getElem?, List.getElem?_eq_getElem h0]
        simp
        exact fun h => e (by rw [h]; rfl)
  unfold parseE
  rw [if_neg (by omega), hp, if_neg]
  rintro (h | ⟨h1, h2⟩)
  · cases h
  · have : (digs l)[0].toNat = 48 := by
      have e : (digs l)[0] = 48 := by simp [h2]
      rw [e]; rfl
    rw [(hz this).2] at h1; cases h1

theorem infoI : (Try.prog.info? 3).map (fun i => (i.zero, i.size, i.bytes)) = some (some (.int .i64 0), 1, 8) := by kernel_rfl

def RPost (l : List UInt8) (w : World) (e : Ending) (w' : World) : Prop := ∃ z, e = .returned (.tuple #[z, .int .i64 (parseE l)]) ∧ IsZ w' z (parseV l) ∧ w.grownBy w' none ∧ Far (fun g => w.heap.size ≤ g) z

theorem bad_r {l : List UInt8} {w w' : World} {E : Int} (hE : parseE l = E) (h : E ≠ 0) (hg : w.grownBy w' none) : RPost l w (.returned (.tuple #[.agg #[.int .i64 0, .slice none 0 0], .int .i64 E])) w' :=
  ⟨_, by rw [hE], by unfold parseV; rw [hE, if_neg h]; exact isZ_zero _, hg, fun u p n c h h0 => by simp at h; omega⟩

def sgm (m : Bool) : Int := if m then -1 else 1

set_option maxHeartbeats 2000000 in
theorem RParse_c (s : ByteArray) (w : World) : Calls Try.prog 13 #[.string s] w (RPost s.data.toList w) := by
  have hls : s.data.toList.length = s.size := Array.length_toList
  by_cases h0 : s.size = 0
  · obtain rfl : s = ⟨#[]⟩ := by
      cases s with
      | mk a => congr 1; exact Array.eq_empty_of_size_eq_zero h0
    have hfin := bad_r (w := w) (w' := w.alloc (.cells #[.int .i64 0, .slice none 0 0] 31)) (pe_nil (l := (⟨#[]⟩ : ByteArray).data.toList) rfl) (by decide) (gb_alloc (gb_refl w none) _)
    have HFIN := Lib.hid hfin
    clear h0 hls hfin
    go_enter Try.func13, Try.ntmps13
    go_wp2
    exact bodyPost_ret (v := .tuple #[.agg #[.int .i64 0, .slice none 0 0], .int .i64 10]) (by simp [results, Try.results13, go_sem]) rfl HFIN.out
  · have d1 : decide ((0 : Int) < s.size) = true := decide_eq_true (by omega)
    obtain ⟨b, hb⟩ : ∃ b : Nat, (s.data.toList[0]'(by omega)).toNat = b := ⟨_, rfl⟩
    have hix := idx_run s 0 b (by omega) hb
    rw [show ((0 : Nat) : Int) = 0 from rfl] at hix
    obtain ⟨l, hl⟩ : ∃ l, s.data.toList = l := ⟨_, rfl⟩
    have HB := Lib.hid hb
    clear hb
    go_enter Try.func13, Try.ntmps13
    go_upto_if 16 with fail
    go_cut [4, 5] (fun t4 t5 wx => ∃ d : ByteArray, t4 = .string d ∧ t5 = .int .i64 (sgm (minus s.data.toList)) ∧ Hid (d.data.toList = digs s.data.toList) ∧ wx = w.alloc (.cells #[.int .i64 0, .slice none 0 0] 31))
    case first =>
      by_cases h45 : b = 45
      · subst h45
        have hmd := md45 _ HB.out
        have HD := Lib.hid (And.intro hmd.1 ((tail_list s).trans hmd.2.symm))
        clear hmd
        go_wp2_with fail
        go_meet
        exact ⟨_, rfl, by rw [HD.out.1]; rfl, HD.out.2, rfl⟩
      · have d2 : ((b : Int) == 45) = false := beq_eq_false_iff_ne.2 (by omega)
        have hmd := mdne _ (fun e => h45 (HB.out.symm.trans e))
        have HD := Lib.hid hmd
        clear hmd
        go_wp2_with fail
        go_meet
        exact ⟨_, rfl, by rw [HD.out.1]; rfl, HD.out.2.symm, rfl⟩
    case rest =>
      obtain ⟨d, rfl, rfl, hD, rfl⟩ := hcut
      clear hix HB d1 h0 hls hl
      have hds : d.size = (digs s.data.toList).length := by rw [← hD.out]; exact (Array.length_toList).symm
      obtain ⟨n, hn⟩ : ∃ n, (digs s.data.toList).length = n := ⟨_, rfl⟩
      rw [hn] at hds
      obtain ⟨sm, hsm⟩ : ∃ sm, sgm (minus s.data.toList) = sm := ⟨_, rfl⟩
      rw [hsm]
      have HN := Lib.hid hn; have HSM := Lib.hid hsm
      have HW := Lib.hid (World.grownBy_alloc w (.cells #[.int .i64 0, .slice none 0 0] 31) none)
      clear hn hsm
      have hsz : (d.size : Int) = n := by omega
      have hbad10 : ∀ w' : World, parseE s.data.toList = 10 → w.grownBy w' none → RPost s.data.toList w (.returned (.tuple #[.agg #[.int .i64 0, .slice none 0 0], .int .i64 10])) w' := fun _ h hg => bad_r h (by decide) hg
      have HB10 := Lib.hid hbad10
      clear hbad10
      by_cases h60 : 60 < n
      · have d2 : decide ((60 : Int) < n) = true := decide_eq_true (by omega)
        have hfin := bad_r (pe_big (l := s.data.toList) (by rw [HN.out]; exact h60)) (by decide) HW.out
        have HFIN := Lib.hid hfin
        clear hfin
        go_wp2_with fail
        exact bodyPost_ret (v := .tuple #[.agg #[.int .i64 0, .slice none 0 0], .int .i64 11]) (by simp [results, Try.results13, go_sem]) rfl HFIN.out
      · have d2 : decide ((60 : Int) < n) = false := decide_eq_false (by omega)
        by_cases hn0 : n = 0
        · subst hn0
          have hfin := HB10.out _ (pe_nil HN.out) HW.out
          have HFIN := Lib.hid hfin
          clear hfin
          go_wp2_with fail
          exact bodyPost_ret (v := .tuple #[.agg #[.int .i64 0, .slice none 0 0], .int .i64 10]) (by simp [results, Try.results13, go_sem]) rfl HFIN.out
        · have d3 : ((n : Int) == 0) = false := beq_eq_false_iff_ne.2 (by omega)
          have h0l : 0 < (digs s.data.toList).length := by rw [HN.out]; omega
          obtain ⟨b0, hb0⟩ : ∃ b : Nat, ((digs s.data.toList)[0]'h0l).toNat = b := ⟨_, rfl⟩
          have hix := idx_run d 0 b0 (by rw [hD.out]; exact h0l) (by rw [← hb0]; simp only [hD.out])
          rw [show ((0 : Nat) : Int) = 0 from rfl] at hix
          have HB0 := Lib.hid hb0
          clear hb0
          go_upto_region 8 with fail
          go_cut [39] (fun t39 wx => ∃ cc : Bool, t39 = .bool cc ∧ Hid (cc = true → parseE s.data.toList = 10) ∧ Hid (cc = false → b0 = 48 → n = 1 ∧ minus s.data.toList = false) ∧ wx = w.alloc (.cells #[.int .i64 0, .slice none 0 0] 31))
          case first =>
            by_cases hb48 : b0 = 48
            · subst hb48
              by_cases h1 : 1 < n
              · have d4 : decide ((1 : Int) < n) = true := decide_eq_true (by omega)
                have H10 := Lib.hid (pe_zero (l := s.data.toList) (by rw [HN.out]; omega) h0l HB0.out (.inl (by rw [HN.out]; exact h1)))
                go_wp2_with fail
                go_meet
                exact ⟨true, rfl, fun _ => H10.out, (fun h => by cases h), rfl⟩
              · have d4 : decide ((1 : Int) < n) = false := decide_eq_false (by omega)
                obtain ⟨mm, hmm⟩ : ∃ m, minus s.data.toList = m := ⟨_, rfl⟩
                have HMM := Lib.hid hmm
                have hsm := HSM.out
                rw [hmm] at hsm
                subst hsm
                cases mm
                · clear hmm
                  have d5 : decide (sgm false < 0) = false := rfl
                  go_wp2_with fail
                  go_meet
                  exact ⟨false, rfl, (fun h => by cases h), fun _ _ => ⟨by omega, HMM.out⟩, rfl⟩
                · have H10 := Lib.hid (pe_zero (l := s.data.toList) (by rw [HN.out]; omega) h0l HB0.out (.inr hmm))
                  clear hmm
                  have d5 : decide (sgm true < 0) = true := rfl
                  go_wp2_with fail
                  go_meet
                  exact ⟨true, rfl, fun _ => H10.out, (fun h => by cases h), rfl⟩
            · have d4 : ((b0 : Int) == 48) = false := beq_eq_false_iff_ne.2 (by omega)
              go_wp2_with fail
              go_meet
              exact ⟨false, rfl, (fun h => by cases h), fun _ h => absurd h hb48, rfl⟩
          case rest =>
            obtain ⟨cc, rfl, H10, HOK, rfl⟩ := hcut
            clear hix
            cases cc
            · have HOK := Lib.hid (HOK.out rfl)
              clear H10
              have HST : Hid (Own .i64 3 (w.alloc (.cells #[.int .i64 0, .slice none 0 0] 31)) (w.heap.size + 1) (.slice none 0 0) (n - n) (fun j => dgt (digs s.data.toList) (n - 1 - j))) := by
                rw [Nat.sub_self]; exact Own.nil
              go_wp2_with fail
              go_loopw [6, 7] (fun v i wr => ∃ q : Nat, q ≤ n ∧ i = .int .i64 ((q : Int) - 1) ∧ Hid (Own .i64 3 wr (w.heap.size + 1) v (n - q) (fun j => dgt (digs s.data.toList) (n - 1 - j))) ∧ Hid (∀ j (hj : j < (digs s.data.toList).length), q ≤ j → 48 ≤ ((digs s.data.toList)[j]).toNat ∧ ((digs s.data.toList)[j]).toNat ≤ 57) ∧ Hid (Below (w.heap.size + 1) (w.alloc (.cells #[.int .i64 0, .slice none 0 0] 31)) wr)) (fun _ i _ => (intOf i + 1).toNat)
              case atStart => exact ⟨n, Nat.le_refl _, rfl, HST, fun j hj h => by have := HN.out; omega, Below.refl _ _⟩
              case round =>
                clear HST
                obtain ⟨q, hq, rfl, HO, HDG, HBL⟩ := hrel
                by_cases hlt : 0 < q
                · have hql : q - 1 < (digs s.data.toList).length := by rw [HN.out]; omega
                  obtain ⟨b, hbv⟩ : ∃ b : Nat, ((digs s.data.toList)[q - 1]'hql).toNat = b := ⟨_, rfl⟩
                  have hix := idx_run d (q - 1) b (by rw [hD.out]; exact hql) (by rw [← hbv]; simp only [hD.out])
                  rw [show ((q - 1 : Nat) : Int) = (q : Int) - 1 by omega] at hix
                  have HBV := Lib.hid hbv
                  have hi0 : (0 : Int) ≤ (q : Int) - 1 := by omega
                  have hgw : w.grownBy wr none := gb_trans HW.out (below_gb (by simpa using HBL.out))
                  have HGW := Lib.hid hgw
                  have hbox := (HBL.out.block w.heap.size (by omega)).trans (top1 w _)
                  obtain ⟨x0, x1, x2⟩ := zcells_of hbox
                  have HBAD := Lib.hid (z_ret hbox (gb_refl wr none) (isZ_zero wr) hgw (Nat.le_refl _) rfl)
                  clear hbv hgw hbox
                  by_cases hb1 : b < 48
                  · have hfin := fun w' => HB10.out w' (pe_bad (by rw [HN.out]; omega) hql (by rw [HBV.out]; exact .inl hb1))
                    have d5 : decide ((b : Int) < 48) = true := decide_eq_true (by omega)
                    have HFIN := Lib.hid hfin
                    clear hfin
                    go_wp2_with fail
                    obtain ⟨k0, k1, k2, k3⟩ := HBAD.out
                    exact bodyPost_ret (v := .tuple #[.agg #[.int .i64 0, .slice none 0 0], .int .i64 10]) (by simp [results, Try.results13, go_sem, k2, k3]) rfl (HFIN.out _ k1)
                  · have d5 : decide ((b : Int) < 48) = false := decide_eq_false (by omega)
                    by_cases hb2 : 57 < b
                    · have hfin := fun w' => HB10.out w' (pe_bad (by rw [HN.out]; omega) hql (by rw [HBV.out]; exact .inr hb2))
                      have d6 : decide ((57 : Int) < b) = true := decide_eq_true (by omega)
                      have HFIN := Lib.hid hfin
                      clear hfin
                      go_wp2_with fail
                      obtain ⟨k0, k1, k2, k3⟩ := HBAD.out
                      exact bodyPost_ret (v := .tuple #[.agg #[.int .i64 0, .slice none 0 0], .int .i64 10]) (by simp [results, Try.results13, go_sem, k2, k3]) rfl (HFIN.out _ k1)
                    · have d6 : decide ((57 : Int) < b) = false := decide_eq_false (by omega)
                      have hb8 : IntKind.u8.wrap ((b : Int) - 48) = ((b - 48 : Nat) : Int) := by rw [IntKind.wrap_u8]; omega
                      have hszw : w.heap.size + 1 ≤ wr.heap.size := by have := HBL.out.size; simpa using this
                      clear x0 x1 x2 HBAD
                      go_wp2_with (at_builtin; go_loud (refine wpList_app1 (k := .i64) (t := 29) (e := 3) (bytes := 8) Try.underlying29 infoI (by omega) rfl _ _ rfl (w.heap.size + 1) u6 (n - q) _ _ (b - 48) (by omega) rfl HO.out rfl (by omega) (by omega) ?_))
                      intro v' w' hO' hG'
                      have HO' := Lib.hid hO'; have HG' := Lib.hid hG'
                      have hfar := Lib.hid HO.out.far
                      clear hO' hG'
                      go_wp2_with fail
                      have e1 : n - (q - 1) = n - q + 1 := by omega
                      go_roundw
                      case rel =>
                        refine ⟨q - 1, by omega, by go_num, ?_, ?_, HBL.out.grown HG'.out hszw hfar.out⟩
                        · show Own .i64 3 _ _ _ (n - (q - 1)) _
                          rw [e1]
                          refine HO'.out.congr fun j hj => ?_
                          by_cases e : j = n - q
                          · subst e
                            rw [upd_at, show n - 1 - (n - q) = q - 1 by omega, dgt_get hql, HBV.out]
                          · rw [upd_ne e]
                        · intro j hj h
                          by_cases e : j = q - 1
                          · subst e; rw [HBV.out]; omega
                          · exact HDG.out j hj (by omega)
                      case measure => simp [intOf]; omega
                · obtain rfl : q = 0 := by omega
                  obtain ⟨p, cap, rfl, hmc, hcm⟩ : ∃ p cap, u6 = .slice p n cap ∧ n ≤ cap ∧ cap ≤ maxLen := by
                    rcases HO.out.shape with ⟨_, h⟩ | ⟨g, cap, h1, _, _, hnc, hcm⟩
                    · omega
                    · exact ⟨_, _, h1, hnc, hcm⟩
                  have hE := pe_ok (l := s.data.toList) (by rw [HN.out]; omega) h0l (fun h => by rw [HN.out]; exact HOK.out trivial (by rw [← HB0.out]; exact h)) (fun j hj => HDG.out j hj (Nat.zero_le _))
                  have hV : parseV s.data.toList = sm * (V 10 (fun j => dgt (digs s.data.toList) (n - 1 - j)) 0 n : Nat) := by
                    have := valL_all (digs s.data.toList)
                    rw [HN.out] at this
                    unfold parseV
                    rw [if_pos hE, this, ← HSM.out]
                    cases minus s.data.toList <;> simp [sgn, sgm]
                  have hdg : ∀ j, j < n → dgt (digs s.data.toList) (n - 1 - j) < 10 := by
                    intro j hj
                    have hjl : n - 1 - j < (digs s.data.toList).length := by rw [HN.out]; omega
                    have := HDG.out _ hjl (Nat.zero_le _)
                    rw [dgt_get hjl]; omega
                  have hsm1 : sm = -1 ∨ sm = 0 ∨ sm = 1 := by
                    rw [← HSM.out]; cases minus s.data.toList <;> simp [sgm]
                  have hsm0 : sm = 0 → V 10 (fun j => dgt (digs s.data.toList) (n - 1 - j)) 0 n = 0 := by
                    intro h
                    exfalso
                    rw [← HSM.out] at h
                    cases hm : minus s.data.toList <;> rw [hm] at h <;> simp [sgm] at h
                  have HM := Lib.hid (made_c sm p n cap _ wr hsm1 hsm0 hmc hcm HO.out.at.2 hdg)
                  have HE := Lib.hid hE; have HV := Lib.hid hV
                  have HBX := Lib.hid ((HBL.out.block w.heap.size (by omega)).trans (top1 w _))
                  have HFR := Lib.hid HO.out.far
                  clear hE hV hdg hsm0 hsm1
                  go_wp2_with (go_at_call 42; refine HM.out.mono ?_; rintro e w3 ⟨s3, p3, n3, c3, rfl, hx, hg, hp3⟩; have HX := Lib.hid hx; have HG3 := Lib.hid hg; have HP3 := Lib.hid hp3; have hb3 := (hg.block _ (Array.getElem?_eq_some_iff.1 HBX.out).1 (by simp)).trans HBX.out; have HB3 := Lib.hid hb3; obtain ⟨x0, x1, x2⟩ := zcells_of hb3; clear hx hg hp3 hb3)
                  have hgw : w.grownBy w3 none := gb_trans (gb_trans HW.out (below_gb (by simpa using HBL.out))) HG3.out
                  obtain ⟨k0, k1, k2, k3⟩ := z_ret HB3.out (gb_refl w3 none) HX.out hgw (Nat.le_refl _) rfl
                  refine bodyPost_ret (v := .tuple #[.agg #[.int .i64 s3, .slice p3 n3 c3], .int .i64 0]) (by simp [results, Try.results13, go_sem, k2, k3]) rfl ⟨_, by rw [HE.out], by rw [HV.out]; exact k0, k1, ?_⟩
                  intro u p' n' c' h h0
                  simp at h
                  obtain ⟨rfl, rfl, rfl, rfl⟩ := h
                  obtain ⟨a, ha, hb⟩ := z_some k0 h0
                  have hpp := HP3.out h0
                  subst hpp
                  subst ha
                  exact ⟨a, rfl, Nat.le_of_succ_le (HFR.out a.block (by simp [Value.ownBlock]))⟩
            · have hfin := HB10.out _ (H10.out rfl) HW.out
              have HFIN := Lib.hid hfin
              clear hfin
              go_wp2_with fail
              exact bodyPost_ret (v := .tuple #[.agg #[.int .i64 0, .slice none 0 0], .int .i64 10]) (by simp [results, Try.results13, go_sem]) rfl HFIN.out
end Go.Proofs.Ytkonfkcaefjabaa
