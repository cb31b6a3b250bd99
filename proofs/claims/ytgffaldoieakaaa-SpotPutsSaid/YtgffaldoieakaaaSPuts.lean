/- The law on puts, walked. -/
import Derived.Test.YtgffaldoieakaaaSRPut
import Derived.Test.YtgffaldoieakaaaSPick
import Derived.Test.YtgffaldoieakaaaSMath4
namespace Go.Proofs.Ytgffaldoieakaaa
open Go.RowKit

theorem spN_map (sp : List (Nat × Nat)) : (sp.map spN).map spI = sp.map spV := by
  rw [List.map_map]; rfl

set_option maxRecDepth 100000 in
set_option maxHeartbeats 16000000 in
theorem puts_no (s : ByteArray) (p : Option Addr) (m c : Nat) (l : List Ed) (w : World) (hs : s.size ≤ 300) (hm : l.length = m) (hl : m ≤ 20) (h : QAt w p (l.map edV)) (hsm : smallE l = false) :
    Calls Try.prog 5 #[.string s, .slice p m c] w (ValPost (.bool true) w) := by
  obtain ⟨n, hsz⟩ : ∃ n, s.size = n := ⟨_, rfl⟩
  have d1 : decide ((300 : Int) < n) = false := decide_eq_false (by omega)
  have d1' : decide (300 < n) = false := decide_eq_false (by omega)
  have HE := Lib.hid (fun (W : World) (hg : w.grownBy W none) => edits_c p c l W (by omega) (h.kept hg))
  rw [hm] at HE
  have HS := Lib.hid hsm
  rw [hsz] at hs
  clear h hm hsm
  go_enter Try.func5, Try.ntmps5
  go_wp2_with fail
  refine (anchor_c _).mono ?_
  rintro e w0 ⟨rfl, hg0⟩
  have HG0 := Lib.hid hg0
  clear hg0
  go_wp2_with fail
  refine (HE.out w0 HG0.out).mono ?_
  rintro e w1 ⟨hg1, he1⟩
  rw [HS.out, if_neg (by simp)] at he1
  subst he1
  have HG1 := Lib.hid (gb_trans HG0.out hg1)
  clear hg1
  go_wp2_with fail
  go_ret
  exact ⟨rfl, HG1.out⟩

set_option maxRecDepth 100000 in
set_option maxHeartbeats 16000000 in
theorem puts_yes (s : ByteArray) (p : Option Addr) (m c : Nat) (l : List Ed) (w : World) (hs : s.size ≤ 300) (hm : l.length = m) (hl : m ≤ 20) (h : QAt w p (l.map edV)) (hsm : smallE l = true) :
    Calls Try.prog 5 #[.string s, .slice p m c] w (ValPost (.bool true) w) := by
  obtain ⟨n, hsz⟩ : ∃ n, s.size = n := ⟨_, rfl⟩
  have HSZ := Lib.hid hsz
  have d1 : decide ((300 : Int) < n) = false := decide_eq_false (by omega)
  have d1' : decide (300 < n) = false := decide_eq_false (by omega)
  have HE := Lib.hid (fun (W : World) (hg : w.grownBy W none) => edits_c p c l W (by omega) (h.kept hg))
  have HP := Lib.hid (fun (W : World) (hg : w.grownBy W none) => Put_c s p c l W (by omega) (by omega) (h.kept hg))
  have HR := Lib.hid (fun (W : World) q cc (hq : QAt W q (l.map edV)) => Right_c s q cc l W hs (by omega) hsm hq)
  have HRP := Lib.hid (fun (W : World) q cc (hr : rightB s.size l = true) (hq : QAt W q (l.map edV)) => RPut_c s q cc l W hs (by omega) hsm hr hq)
  rw [hm] at HE HP HR HRP
  have HS := Lib.hid hsm; have HA := Lib.hid h; have HM := Lib.hid hm
  rw [hsz] at hs
  clear h hm hsm
  go_enter Try.func5, Try.ntmps5
  go_wp2_with fail
  refine (anchor_c _).mono ?_
  rintro e w0 ⟨rfl, hg0⟩
  have HG0 := Lib.hid hg0
  clear hg0
  go_wp2_with fail
  refine (HE.out w0 HG0.out).mono ?_
  rintro e w1 ⟨hg1, he1⟩
  rw [HS.out, if_pos rfl] at he1
  obtain ⟨ev, rfl, how⟩ := he1
  have HG1 := Lib.hid (gb_trans HG0.out hg1)
  have HOW := Lib.hid how
  clear hg1 how
  go_wp2_with fail
  refine (HP.out w1 HG1.out).mono ?_
  rintro e w2 ⟨hg2, hput⟩
  have HG2 := Lib.hid (gb_trans HG1.out hg2)
  have how2 := HOW.out.kept hg2
  obtain ⟨q, c', hq, hqa, -⟩ := how2.is
  rw [List.length_map, HM.out] at hq
  subst hq
  have HQA := Lib.hid hqa
  have HRR := HR.out w2 q c' hqa
  cases hr : rightB s.size l with
  | false =>
    rw [hr, if_neg (by simp)] at hput
    subst hput
    rw [hr] at HRR
    have HRX := Lib.hid HRR
    clear hg2 how2 hqa HRR hr d1 d1'
    go_wp2_with fail
    refine HRX.out.mono ?_
    rintro e w3 ⟨rfl, hg3⟩
    have HG3 := Lib.hid (gb_trans HG2.out hg3)
    clear hg3
    go_wp2_with fail
    go_ret
    exact ⟨rfl, HG3.out⟩
  | true =>
    rw [hr, if_pos rfl] at hput
    obtain ⟨qs, cs, rfl, hosp⟩ := hput
    rw [hr] at HRR
    have HRX := Lib.hid HRR
    have HRT := Lib.hid hr
    obtain ⟨T, hT⟩ : ∃ T : ByteArray, (⟨(putL s.data.toList l).toArray⟩ : ByteArray) = T := ⟨_, rfl⟩
    obtain ⟨k1, k2, k3, k4⟩ := put_all s l hr T hT.symm
    obtain ⟨sp, hsp⟩ : ∃ sp, (putSt s.data.toList l).2.2 = sp := ⟨_, rfl⟩
    rw [hsp] at k1 k2 k3 hosp
    have hspl : sp.length = m := by
      have := congrArg List.length k2
      simpa [pickB, HM.out] using this
    rw [HM.out, hT]
    have HT := Lib.hid hT; have HK1 := Lib.hid k1; have HK2 := Lib.hid k2; have HK3 := Lib.hid k3; have HK4 := Lib.hid k4; have HSP := Lib.hid hsp; have HSPL := Lib.hid hspl
    rw [HM.out] at hosp
    have HOSP := Lib.hid hosp
    clear hg2 how2 hqa HRR hr d1 d1' hT k1 k2 k3 k4 hsp hspl hosp HE HP HR
    go_wp2_with fail
    refine HRX.out.mono ?_
    rintro e w3 ⟨rfl, hg3⟩
    have HG3 := Lib.hid (gb_trans HG2.out hg3)
    have HO3 := Lib.hid (HOSP.out.kept hg3)
    have hrp := HRP.out w3 q c' HRT.out (HQA.out.kept hg3)
    have HRPX := Lib.hid hrp
    clear hg3 hrp HRX HRP HOSP
    go_wp2_with fail
    refine HRPX.out.mono ?_
    rintro e w4 ⟨hg4, qy, cy, rfl, hoy⟩
    rw [HSP.out, HM.out] at hoy
    have hos4 := HO3.out.kept hg4
    obtain ⟨q5, c5, hq5, hqs5, -⟩ := hos4.is
    rw [List.length_map, HSPL.out] at hq5
    injection hq5 with g1 g2 g3
    subst g1; subst g3
    obtain ⟨q6, c6, hq6, hqy6, -⟩ := hoy.is
    rw [List.length_map, HSPL.out] at hq6
    injection hq6 with g1 g4 g3
    subst g1; subst g3
    rw [HT.out, HM.out]
    have HG4 := Lib.hid (gb_trans HG3.out hg4); have HQS := Lib.hid hqs5; have HQY := Lib.hid hqy6
    have hpick := fun (W : World) (hg : w4.grownBy W none) => Pick_c T qs cs (sp.map spN) W (by have := HK4.out; omega) (by rw [List.length_map, HSPL.out]; omega) (by rw [spN_map]; exact hqs5.kept hg)
    have hcut := fun (W : World) (hg : w4.grownBy W none) => Cut_c T qs cs (sp.map spN) W (by have := HK4.out; omega) (by rw [List.length_map, HSPL.out]; omega) (by rw [spN_map]; exact hqs5.kept hg)
    rw [List.length_map, HSPL.out] at hpick hcut
    have HPI := Lib.hid (hpick w4 (gb_refl _ _)); have HCU := Lib.hid hcut
    have htt : (T.toList == T.toList) = true := by simp
    have hss : (s.toList == s.toList) = true := by simp
    clear hg4 hos4 hqs5 hqy6 hoy hpick hcut g2 g4 HRPX HO3
    go_wp2_with fail
    refine HPI.out.mono ?_
    rintro e w5 ⟨hg5, hp5⟩
    rw [HK1.out, if_pos rfl] at hp5
    obtain ⟨qt, ct, rfl, hot⟩ := hp5
    rw [List.length_map, HSPL.out] at hot ⊢
    rw [HK2.out] at hot
    have HG5 := Lib.hid hg5; have HOT := Lib.hid hot
    have HCUX := Lib.hid (HCU.out w5 hg5)
    clear hg5 hot HCU HPI
    go_wp2_with fail
    refine HCUX.out.mono ?_
    rintro e w6 ⟨hg6, hc6⟩
    rw [HK1.out, if_pos rfl, HK3.out] at hc6
    subst hc6
    obtain ⟨qt2, ct2, hqt, hvt, -⟩ := (HOT.out.kept hg6).is
    injection hqt with e1 e2 e3
    subst e1; subst e3
    have HG6 := Lib.hid (gb_trans HG5.out hg6); have HVT := Lib.hid hvt
    clear hg6 hvt e2 HCUX HOT
    have hmm : ((m : Int) != m) = false := by simp
    go_wp2_with fail
    go_loopw [106] (fun i wr => ∃ (k : Nat), k ≤ m ∧ i = .int .i64 k ∧ Hid (w6.grownBy wr none)) (fun i _ => m - (intOf i).toNat)
    case atStart => exact ⟨0, by omega, rfl, gb_refl _ _⟩
    case round =>
      obtain ⟨k, hk, rfl, HG⟩ := hrel
      by_cases hlt : k < m
      · obtain ⟨⟨at', tx⟩, he⟩ : ∃ e, l[k]? = some e := ⟨l[k]'(by rw [HM.out]; exact hlt), List.getElem?_eq_getElem _⟩
        obtain ⟨⟨a, b⟩, hsk⟩ : ∃ e, sp[k]? = some e := ⟨sp[k]'(by rw [HSPL.out]; exact hlt), List.getElem?_eq_getElem _⟩
        obtain ⟨g, off, rfl, hgl, hc⟩ := HA.out.resolve_left (fun h => by have h1 := HM.out; simp at h; rw [h] at h1; simp at h1; omega)
        obtain ⟨g1, o1, rfl, hgl1, hc1⟩ := HQS.out.resolve_left (fun h => by have h1 := HSPL.out; simp at h; rw [h] at h1; simp at h1; omega)
        obtain ⟨g2, o2, rfl, hgl2, hc2⟩ := HQY.out.resolve_left (fun h => by have h1 := HSPL.out; simp at h; rw [h] at h1; simp at h1; omega)
        obtain ⟨g3, o3, rfl, hgl3, hc3⟩ := HVT.out.resolve_left (fun h => by have h1 := HM.out; simp at h; rw [h] at h1; simp at h1; omega)
        obtain ⟨-, x1⟩ := hc k (.int .i64 at', .string tx) (by rw [List.getElem?_map, he]; rfl)
        obtain ⟨y0, y1⟩ := hc1 k (.int .i64 (a : Nat), .int .i64 (b : Nat)) (by rw [List.getElem?_map, hsk]; rfl)
        obtain ⟨z0, z1⟩ := hc2 k (.int .i64 (a : Nat), .int .i64 (b : Nat)) (by rw [List.getElem?_map, hsk]; rfl)
        have t0 := hc3 k (.string tx) (by rw [List.getElem?_map, List.getElem?_map, he]; rfl)
        have HG7 := Lib.hid (gb_trans HG6.out HG.out)
        have hga := World.grownBy_alloc wr (.cells #[.int .i64 (a : Nat), .int .i64 (b : Nat)] 53) none
        have x1 := (gb_trans HG4.out HG7.out).cell x1 (by simp)
        have y0 := HG7.out.cell y0 (by simp)
        have y1 := HG7.out.cell y1 (by simp)
        have z0 := HG7.out.cell z0 (by simp)
        have z1 := HG7.out.cell z1 (by simp)
        have t0 := HG.out.cell t0 (by simp)
        have x2 := hga.cell x1 (by simp)
        have z2 := hga.cell z0 (by simp)
        have z3 := hga.cell z1 (by simp)
        have t2 := hga.cell t0 (by simp)
        have HBX := Lib.hid (heap_alloc_new wr (.cells #[.int .i64 (a : Nat), .int .i64 (b : Nat)] 53))
        obtain ⟨b0, b1, b2⟩ := cells2 HBX.out
        have HG8 := Lib.hid (gb_trans HG.out hga)
        have q1 : (((a : Nat) : Int) != (a : Nat)) = false := by simp
        have q2 : (((b : Nat) : Int) != (b : Nat)) = false := by simp
        have q3 : (tx.toList == tx.toList) = true := by simp
        clear hc hc1 hc2 hc3 hgl hgl1 hgl2 hgl3 he hsk hga b2
        go_wp2_with fail
        generalize wr.alloc (.cells #[.int .i64 (a : Nat), .int .i64 (b : Nat)] 53) = W1 at *
        go_quiet (fail)
        go_wp2_with fail
        go_roundw
        case rel => exact ⟨k + 1, by omega, by go_num, Lib.hid (gb_drewN HG8.out _)⟩
        case measure => (simp [intOf] <;> omega)
      · obtain rfl : k = m := by omega
        have HFIN := Lib.hid (gb_trans HG4.out (gb_trans HG6.out HG.out))
        go_wp2_with fail
        go_ret
        exact ⟨rfl, HFIN.out⟩

set_option maxRecDepth 100000 in
set_option maxHeartbeats 2000000 in
theorem edits_any (p : Option Addr) (c m : Nat) (l : List Ed) (w : World) (hm : l.length = m) (hml : m < 9223372036854775808) (h : QAt w p (l.map edV)) :
    Calls Try.prog 14 #[.slice p m c] w (fun e w' => w.grownBy w' none ∧ ∃ v b, e = .returned (.tuple #[v, .bool b]) ∧ (20 < m → b = false)) := by
  by_cases h2 : 20 < m
  · have d1 : decide ((20 : Int) < m) = true := decide_eq_true (by omega)
    have d1' : decide (20 < m) = true := decide_eq_true h2
    clear h hm
    go_enter Try.func14, Try.ntmps14
    go_wp2_with fail
    go_ret2
    exact ⟨gb_refl _ _, _, _, rfl, fun _ => rfl⟩
  · subst hm
    refine (edits_c p c l w (by omega) h).mono ?_
    rintro e w' ⟨hg, he⟩
    refine ⟨hg, ?_⟩
    cases hs : smallE l with
    | true =>
      rw [hs, if_pos rfl] at he
      obtain ⟨v, he, -⟩ := he
      exact ⟨v, true, he, fun hh => absurd hh h2⟩
    | false =>
      rw [hs, if_neg (by simp)] at he
      exact ⟨_, false, he, fun _ => rfl⟩

set_option maxRecDepth 100000 in
set_option maxHeartbeats 2000000 in
theorem puts_big (s : ByteArray) (p : Option Addr) (m c : Nat) (l : List Ed) (w : World) (hs : s.size < 9223372036854775808) (hm : l.length = m) (hml : m < 9223372036854775808) (h : QAt w p (l.map edV)) (hb : 300 < s.size ∨ 20 < m) :
    Calls Try.prog 5 #[.string s, .slice p m c] w (ValPost (.bool true) w) := by
  obtain ⟨n, hsz⟩ : ∃ n, s.size = n := ⟨_, rfl⟩
  rw [hsz] at hs hb
  have HE := Lib.hid (fun (W : World) (hg : w.grownBy W none) => edits_any p c m l W hm hml (h.kept hg))
  clear h hm
  by_cases h1 : 300 < n
  · have d1 : decide ((300 : Int) < n) = true := decide_eq_true (by omega)
    have d1' : decide (300 < n) = true := decide_eq_true h1
    go_enter Try.func5, Try.ntmps5
    go_wp2_with fail
    refine (anchor_c _).mono ?_
    rintro e w0 ⟨rfl, hg0⟩
    have HG0 := Lib.hid hg0
    clear hg0
    go_wp2_with fail
    refine (HE.out w0 HG0.out).mono ?_
    rintro e w1 ⟨hg1, v, b, rfl, -⟩
    have HG1 := Lib.hid (gb_trans HG0.out hg1)
    clear hg1
    go_wp2_with fail
    go_ret
    exact ⟨rfl, HG1.out⟩
  · have d1 : decide ((300 : Int) < n) = false := decide_eq_false (by omega)
    have d1' : decide (300 < n) = false := decide_eq_false h1
    have h2 : 20 < m := by omega
    go_enter Try.func5, Try.ntmps5
    go_wp2_with fail
    refine (anchor_c _).mono ?_
    rintro e w0 ⟨rfl, hg0⟩
    have HG0 := Lib.hid hg0
    clear hg0
    go_wp2_with fail
    refine (HE.out w0 HG0.out).mono ?_
    rintro e w1 ⟨hg1, v, b, rfl, hbf⟩
    obtain rfl := hbf h2
    have HG1 := Lib.hid (gb_trans HG0.out hg1)
    clear hg1
    go_wp2_with fail
    go_ret
    exact ⟨rfl, HG1.out⟩

set_option maxRecDepth 100000 in
set_option maxHeartbeats 2000000 in
theorem puts_c (s : ByteArray) (p : Option Addr) (m c : Nat) (l : List Ed) (w : World) (hs : s.size < 9223372036854775808) (hm : l.length = m) (hmc : m ≤ c) (hml : m < 9223372036854775808) (h : QAt w p (l.map edV)) :
    Calls Try.prog 5 #[.string s, .slice p m c] w (ValPost (.bool true) w) := by
  by_cases h2 : 20 < m
  · exact puts_big s p m c l w hs hm hml h (.inr h2)
  by_cases h1 : 300 < s.size
  · exact puts_big s p m c l w hs hm hml h (.inl h1)
  cases hsm : smallE l with
  | false => exact puts_no s p m c l w (by omega) hm (by omega) h hsm
  | true => exact puts_yes s p m c l w (by omega) hm (by omega) h hsm
end Go.Proofs.Ytgffaldoieakaaa
