/- A program's dump; two programs with one dump are found the same. -/
import Derived.Deep.RegionHeld3
import Derived.Test.YtoahgeleenpnjaaGreatDoorE46
set_option linter.unusedVariables false
set_option linter.unusedSimpArgs false
namespace Go.Proofs.YtoahgeleenpnjaaGreatDoor
open Go.RowKit

theorem impX_cells {w : World} {pi : Option Addr} {l : List (List UInt8 × Nat)} (h : GAt 2 w pi (l.map impV)) {j : Nat} {x : List UInt8 × Nat} (hx : l[j]? = some x) : ∃ g off, pi = some ⟨g, off, none⟩ ∧ g < w.heap.size ∧ w.cell? ⟨g, off + j * 2, none⟩ = some (.string ⟨x.1.toArray⟩) ∧ w.cell? ⟨g, off + j * 2 + 1, none⟩ = some (.int .i64 (x.2 : Int)) := by
  have hq : (l.map impV)[j]? = some (impV x) := by rw [List.getElem?_map, hx]; rfl
  obtain ⟨g, off, rfl, hgl, hc⟩ := h.resolve_left (fun e => by rw [e] at hq; simp at hq)
  have hc := hc j _ hq
  have c0 := hc 0 _ rfl
  rw [Nat.add_zero] at c0
  exact ⟨g, off, rfl, hgl, c0, hc 1 _ rfl⟩
theorem bld_of {W : World} {b B : Nat} (h : W.heap[b]? = some (.cells #[.pointer none, .slice none 0 0] 97 (0, 0))) (hB : B ≤ b) : Lib.IsBuilder 97 5 B b [] W :=
  .inl ⟨hB, .slice none 0 0, h, World.ownsRow_nil _ _ _ _, by simp [Value.ownBlock]⟩

set_option maxRecDepth 100000 in
set_option maxHeartbeats 16000000 in
theorem PDump_c (F : Nat → Prop) (P : Px) (q : List Value) (w : World) (hx : PrAt F w P q) (hb : PBd P) :
    Calls Tryz.prog 10 #[.agg q.toArray] w (StrGb (dmpP P) w) := by
  replace hx := hx.bound
  obtain ⟨pi, ci, pd, cd, drow, rfl, hgi, hgd, hds, hia, hda⟩ := hx
  have HLE := Lib.hid (dmpP_len hb)
  have HDE : Hid (dmpP P = P.imps.flatMap dmpI ++ P.defs.flatMap dmpD) := Lib.hid rfl
  have HPB := Lib.hid hb
  have HKI := Lib.hid (fun (W : World) (hg : w.grownBy W none) => gat_sameG (S := fun _ => False) (F := fun k => F k ∧ k < w.heap.size) (List.length_map _) hgi hia (Fr2.none hg) (fun _ _ h => h))
  have HKD := Lib.hid (fun (W : World) (hg : w.grownBy W none) => (show GAt 15 W pd drow ∧ DsAt (fun k => F k ∧ k < w.heap.size) W P.defs drow from ⟨gat_sameG (S := fun _ => False) (F := fun k => F k ∧ k < w.heap.size) (Ds_len hds) hgd hda (Fr2.none hg) (fun _ _ h => h), Ds_kept hds hg⟩))
  obtain ⟨n, hn⟩ : ∃ n, P.imps.length = n := ⟨_, rfl⟩
  obtain ⟨m, hm⟩ : ∃ m, P.defs.length = m := ⟨_, rfl⟩
  have HN := Lib.hid hn; have HM := Lib.hid hm
  have hi : n ≤ 10000 := by rw [← hn]; exact hb.few
  have hd : m ≤ 10000 := by rw [← hm]; exact hb.fewd
  rw [hn, hm]
  clear hgi hgd hds hia hda hb hn hm
  go_enter Tryz.func10, Tryz.ntmps10
  go_wp2_with fail
  obtain ⟨W, b0, b1, hW, e0, e1, hB0, hB1, hgW, h01⟩ := two w (.cells #[.slice pi n ci, .slice pd m cd] 35) (.cells #[.pointer none, .slice none 0 0] 97)
  have HB0 := Lib.hid hB0; have HGW := Lib.hid hgW
  have HPW : Hid (PD b1 b1 [] W) := Lib.hid ⟨bld_of hB1 (Nat.le_refl _), Nat.le_of_lt (hlt hB1)⟩
  have HBB : Hid (b0 < b1 ∧ w.heap.size = b0) := Lib.hid ⟨h01, e0⟩
  try rw [← hW]
  try rw [e1]
  try rw [e0]
  clear hB0 hB1 hgW e0 e1 hW h01
  go_loopg [11] n (fun gk iv wr => ∃ j : Nat, j ≤ n ∧ iv = .int .i64 (j : Int) ∧ n - j ≤ gk ∧ gk ≤ n ∧ Hid (PD b1 b1 ((P.imps.take j).flatMap dmpI) wr) ∧ Hid (Below b1 W wr))
  case atStart => exact ⟨0, Nat.zero_le _, rfl, by omega, Nat.le_refl _, HPW, Lib.hid (Below.refl _ _)⟩
  case round =>
    obtain ⟨j, hj, rfl, hgk, hgm, HPr, HBr⟩ := hrel
    have HGr : Hid (w.grownBy wr none) := Lib.hid (below_gb (Below.trans2 (Below.gb HGW.out (Nat.le_refl _)) (Below.mono HBr.out (by have := HBB.out; omega))))
    by_cases hlj : j < n
    · obtain ⟨x, hx⟩ : ∃ x, P.imps[j]? = some x := ⟨P.imps[j]'(by rw [HN.out]; exact hlj), List.getElem?_eq_getElem _⟩
      obtain ⟨g, off, rfl, hgl, c0, c1⟩ := impX_cells (HKI.out wr HGr.out) hx
      have HNX : Hid ((P.imps.take (j + 1)).flatMap dmpI = (P.imps.take j).flatMap dmpI ++ dmpI x) := Lib.hid (flat_next dmpI hx)
      have HRX : Hid (((P.imps.take j).flatMap dmpI).length + (8 + x.1.length) ≤ 20000000000000) := Lib.hid (by
        have h1 := flat_take dmpI P.imps (j + 1)
        have h2 := HLE.out
        rw [HDE.out, List.length_append] at h2
        rw [HNX.out, List.length_append] at h1
        have h3 : (dmpI x).length = 8 + x.1.length := by unfold dmpI; simp only [List.length_cons, List.length_append, List.length_nil]; omega
        omega)
      have hxb := HPB.out.imps x (List.mem_of_getElem? hx)
      obtain ⟨yf, hyf⟩ : ∃ y : ByteArray, (⟨x.1.toArray⟩ : ByteArray) = y := ⟨_, rfl⟩
      have HYF : Hid (yf.data.toList = x.1) := Lib.hid (by rw [← hyf])
      rw [hyf] at c0
      have hys := sz_list HYF.out
      have k1 : ¬ 9223372036854775807 < 7 + yf.size := by omega
      have k2 : ¬ 9223372036854775807 < 7 + yf.size + 1 := by omega
      obtain ⟨xp, hxp⟩ : ∃ xp, x.2 = xp := ⟨_, rfl⟩
      rw [hxp] at c1
      have i1 : (0 : Int) ≤ (j : Int) := by omega
      have i2 : (j : Int) < (n : Int) := by omega
      have i3 : decide (j < n) = true := decide_eq_true hlj
      have i4 : decide ((j : Int) < (n : Int)) = true := decide_eq_true i2
      have HBW : Hid (b1 ≤ wr.heap.size) := Lib.hid HPr.out.2
      clear hx hyf hys hxp hxb
      go_wp2_with fail
      refine (put_c b1 b1 _ _ _ (HPr.out.gb (World.grownBy_alloc wr _ none)) (by
        unfold Room
        have h1 := HRX.out; have h3 := sz_list HYF.out
        simp only [ByteArray.size_append]
        have e : (⟨#[105, 109, 112, 111, 114, 116, 32]⟩ : ByteArray).size = 7 := rfl
        have e2 : (⟨#[10]⟩ : ByteArray).size = 1 := rfl
        omega)).mono ?_
      rintro e W3 ⟨rfl, hp3, hb3, -⟩
      have HP3 : Hid (PD b1 b1 ((P.imps.take (j + 1)).flatMap dmpI) W3) := Lib.hid (by
        have e : ((⟨#[105, 109, 112, 111, 114, 116, 32]⟩ : ByteArray) ++ yf ++ ⟨#[10]⟩).data.toList = dmpI x := by simp [app_list, HYF.out, dmpI]
        rw [HNX.out, ← e]; exact hp3)
      have HB3 : Hid (Below b1 W W3) := Lib.hid (Below.trans2 HBr.out (Below.trans2 (Below.gb (World.grownBy_alloc wr _ none) HBW.out) hb3))
      have hjb : n ≤ 10000 := hi
      have hw9 : IntKind.i64.wrap ((j : Int) + 1) = ((j + 1 : Nat) : Int) := by rw [IntWalk.i64_in _ (by omega)]; omega
      clear hp3 hb3 c0 c1 k1 k2
      go_wp2_with fail
      go_roundg (n - (j + 1))
      case measure => omega
      case rel => exact ⟨j + 1, by omega, by first | rfl | go_num, Nat.le_refl _, by omega, HP3, HB3⟩
    · obtain rfl : j = n := by omega
      have hpr := HPr.out
      rw [List.take_of_length_le (by have := HN.out; omega)] at hpr
      have HPE := Lib.hid hpr
      have HB0r : Hid (wr.heap[b0]? = some (.cells #[.slice pi j ci, .slice pd m cd] 35 (0, 0))) := Lib.hid ((HBr.out.block b0 HBB.out.1).trans HB0.out)
      obtain ⟨d0, d1, d2⟩ := cells2 HB0r.out
      have hb0 : b0 < wr.heap.size := hlt HB0r.out
      have HBI := HBr
      clear hpr HPr HBr
      go_wp2_with fail
      clear d0 d1 d2 hb0
      go_loopg [24] m (fun gk iv wr => ∃ j2 : Nat, j2 ≤ m ∧ iv = .int .i64 (j2 : Int) ∧ m - j2 ≤ gk ∧ gk ≤ m ∧ Hid (PD b1 b1 (P.imps.flatMap dmpI ++ (P.defs.take j2).flatMap dmpD) wr) ∧ Hid (Below b1 W wr))
      case atStart => exact ⟨0, Nat.zero_le _, rfl, by omega, Nat.le_refl _, Lib.hid (by rw [List.take_zero, List.flatMap_nil, List.append_nil]; exact HPE.out), HBI⟩
      case round =>
        obtain ⟨j2, hj2, rfl, hgk2, hgm2, HPq, HBq⟩ := hrel
        have HGr2 : Hid (w.grownBy wr none) := Lib.hid (below_gb (Below.trans2 (Below.gb HGW.out (Nat.le_refl _)) (Below.mono HBq.out (by have := HBB.out; omega))))
        have HBW : Hid (b1 ≤ wr.heap.size) := Lib.hid HPq.out.2
        by_cases hlm : j2 < m
        · obtain ⟨d, hd0⟩ : ∃ d, P.defs[j2]? = some d := ⟨P.defs[j2]'(by rw [HM.out]; exact hlm), List.getElem?_eq_getElem _⟩
          obtain ⟨hgd, hds⟩ := HKD.out wr HGr2.out
          obtain ⟨qd, hqd, hDd⟩ := Ds_get hds hd0
          have hDd0 := hDd
          obtain ⟨pp, np, cp, prow, pc, nc, cc, qb, rfl, -, hEb, -, -⟩ := hDd0
          obtain ⟨o9, p9, a9, b9, s9, y9, z9, z9', n9, c9, n9', c9', rfl⟩ := hEb.form
          simp only [List.cons_append, List.nil_append] at hDd hqd
          clear hEb
          obtain ⟨gd, offd, rfl, hgld, hcd⟩ := hgd.resolve_left (fun e => by rw [e] at hqd; simp at hqd)
          have hcd := hcd j2 _ hqd
          have e0 := hcd 0 _ rfl
          have e1 := hcd 1 _ rfl
          have e2 := hcd 2 _ rfl
          have e3 := hcd 3 _ rfl
          have e4 := hcd 4 _ rfl
          have e5 := hcd 5 _ rfl
          have e6 := hcd 6 _ rfl
          have e7 := hcd 7 _ rfl
          have e8 := hcd 8 _ rfl
          have e9 := hcd 9 _ rfl
          have e10 := hcd 10 _ rfl
          have e11 := hcd 11 _ rfl
          have e12 := hcd 12 _ rfl
          have e13 := hcd 13 _ rfl
          have e14 := hcd 14 _ rfl
          rw [Nat.add_zero] at e0
          obtain ⟨yn, hyn⟩ : ∃ y : ByteArray, (⟨d.res.nm.toArray⟩ : ByteArray) = y := ⟨_, rfl⟩
          unfold strV at e1 hDd
          rw [hyn] at e1 hDd
          have hbd := HPB.out.defs d (List.mem_of_getElem? hd0)
          have HNX : Hid ((P.defs.take (j2 + 1)).flatMap dmpD = (P.defs.take j2).flatMap dmpD ++ dmpD d) := Lib.hid (flat_next dmpD hd0)
          have HRX : Hid (Room (P.imps.flatMap dmpI ++ (P.defs.take j2).flatMap dmpD) (dmpD d).length) := Lib.hid (by
            have h1 := flat_take dmpD P.defs (j2 + 1)
            have h2 := HLE.out
            rw [HDE.out, List.length_append] at h2
            rw [HNX.out, List.length_append] at h1
            unfold Room
            rw [List.length_append]
            omega)
          have HDD := Lib.hid (fun W' (h : wr.grownBy W' none) (h2 : PD b1 b1 (P.imps.flatMap dmpI ++ (P.defs.take j2).flatMap dmpD) W') => defDump_c (fun k => F k ∧ k < w.heap.size) b1 b1 (fun k hk => by have h3 := hk.2; have h4 := HBB.out; omega) _ d _ W' h2 (hDd.kept h) hbd HRX.out)
          have i1 : (0 : Int) ≤ (j2 : Int) := by omega
          have i2 : (j2 : Int) < (m : Int) := by omega
          have i3 : decide (j2 < m) = true := decide_eq_true hlm
          have i4 : decide ((j2 : Int) < (m : Int)) = true := decide_eq_true i2
          clear hd0 hqd hDd hcd hbd hyn hgd hds
          go_wp2_with fail
          refine (HDD.out _ (World.grownBy_alloc wr _ none) (HPq.out.gb (World.grownBy_alloc wr _ none))).mono ?_
          rintro e W3 ⟨rfl, hp3, hb3, -⟩
          have HP3 : Hid (PD b1 b1 (P.imps.flatMap dmpI ++ (P.defs.take (j2 + 1)).flatMap dmpD) W3) := Lib.hid (by rw [HNX.out, ← List.append_assoc]; exact hp3)
          have HB3 : Hid (Below b1 W W3) := Lib.hid (Below.trans2 HBq.out (Below.trans2 (Below.gb (World.grownBy_alloc wr _ none) HBW.out) hb3))
          have hjb : m ≤ 10000 := hd
          have hw9 : IntKind.i64.wrap ((j2 : Int) + 1) = ((j2 + 1 : Nat) : Int) := by rw [IntWalk.i64_in _ (by omega)]; omega
          clear hp3 hb3 e0 e1 e2 e3 e4 e5 e6 e7 e8 e9 e10 e11 e12 e13 e14 HDD
          go_wp2_with fail
          go_roundg (m - (j2 + 1))
          case measure => omega
          case rel => exact ⟨j2 + 1, by omega, by first | rfl | go_num, Nat.le_refl _, by omega, HP3, HB3⟩
        · obtain rfl : j2 = m := by omega
          have hpq := HPq.out
          rw [List.take_of_length_le (by have := HM.out; omega), ← HDE.out] at hpq
          have HSTR := Lib.hid (Tryz.Builder_String_any_k b1 b1 _ wr (Lib.IsBuilderF.of hpq.1) hpq.2)
          clear hpq
          go_wp2_with fail
          refine HSTR.out.mono ?_
          rintro e w7 ⟨rfl, -, hbe7, -⟩
          have HG7 : Hid (w.grownBy w7 none) := Lib.hid (below_gb (Below.trans2 (Below.gb HGr2.out (Nat.le_refl _)) (Below.mono hbe7 (by have := HBB.out; omega))))
          clear hbe7
          go_wp2_with fail
          go_ret
          exact ⟨⟨_, rfl, rfl⟩, HG7.out⟩

set_option maxRecDepth 100000 in
set_option maxHeartbeats 16000000 in
/-- Two programs with one dump. -/
theorem Same_c (F G : Nat → Prop) (P Q : Px) (qa qb : List Value) (w : World) (ha : PrAt F w P qa) (hb : PrAt G w Q qb) (h1 : PBd P) (h2 : PBd Q) (he : dmpP P = dmpP Q) :
    Calls Tryz.prog 18 #[.agg qa.toArray, .agg qb.toArray] w (ValPost (.bool true) w) := by
  have HDA := Lib.hid (fun W (h : w.grownBy W none) => PDump_c F P qa W (ha.kept h) h1)
  have HDB := Lib.hid (fun W (h : w.grownBy W none) => PDump_c G Q qb W (hb.kept h) h2)
  rw [← he] at HDB
  obtain ⟨D, hD⟩ : ∃ D, dmpP P = D := ⟨_, rfl⟩
  rw [hD] at HDA HDB
  obtain ⟨p1, n1, c1, p2, n2, c2, rfl⟩ : ∃ (pi : Option Addr) (ni ci : Nat) (pd : Option Addr) (nd cd : Nat), qa = [.slice pi ni ci, .slice pd nd cd] := by
    obtain ⟨pi, ci, pd, cd, drow, rfl, -⟩ := ha
    exact ⟨_, _, _, _, _, _, rfl⟩
  obtain ⟨p3, n3, c3, p4, n4, c4, rfl⟩ : ∃ (pi : Option Addr) (ni ci : Nat) (pd : Option Addr) (nd cd : Nat), qb = [.slice pi ni ci, .slice pd nd cd] := by
    obtain ⟨pi, ci, pd, cd, drow, rfl, -⟩ := hb
    exact ⟨_, _, _, _, _, _, rfl⟩
  clear ha hb h1 h2 he hD
  go_enter Tryz.func18, Tryz.ntmps18
  go_wp2_with fail
  obtain ⟨W, b0, b1, hW, e0, e1, hB0, hB1, hgW, h01⟩ := two w (.cells #[.slice p1 n1 c1, .slice p2 n2 c2] 35) (.cells #[.slice p3 n3 c3, .slice p4 n4 c4] 35)
  have HB0 := Lib.hid hB0; have HB1 := Lib.hid hB1; have HGW := Lib.hid hgW
  try rw [← hW]
  try rw [e1]
  try rw [e0]
  clear hB0 hB1 hgW e0 e1 hW h01
  obtain ⟨a0, a1, a2⟩ := cells2 HB0.out
  obtain ⟨d0, d1, d2⟩ := cells2 HB1.out
  have hb0 : b0 < W.heap.size := hlt HB0.out
  have hb1 : b1 < W.heap.size := hlt HB1.out
  go_region_held3 (fun w' => w'.cell? ⟨b0, 0, none⟩ = some (.slice p1 n1 c1) ∧ w'.cell? ⟨b0, 1, none⟩ = some (.slice p2 n2 c2) ∧ w'.cell? ⟨b1, 0, none⟩ = some (.slice p3 n3 c3) ∧ w'.cell? ⟨b1, 1, none⟩ = some (.slice p4 n4 c4))
    (first | with_reducible exact ⟨a0, a1, d0, d1⟩ | go_keep)
    (first
      | (go_at_call 10; have HGA := HG2; refine (HDB.out _ (gb_trans HGW.out (gb_trans HG2.out (by repeat (first | with_reducible exact gb_refl _ _ | with_reducible refine gb_drew ?_))))).mono ?_; rintro e w3 ⟨⟨y3, rfl, hy3⟩, hg3⟩; have hyy : y3 = y2 := ByteArray.ext (Array.toList_inj.1 (hy3.trans HY2.out.symm)); subst hyy; have HG3 := Lib.hid (gb_trans HG2.out (gb_trans (show w2.grownBy _ none from (by repeat (first | with_reducible exact gb_refl _ _ | with_reducible refine gb_drew ?_))) hg3)); obtain ⟨a0, a1, a2⟩ := cells2 (bx HG3.out HB0.out); obtain ⟨d0, d1, d2⟩ := cells2 (bx HG3.out HB1.out); have hb0 : b0 < w3.heap.size := hlt (bx HG3.out HB0.out); have hb1 : b1 < w3.heap.size := hlt (bx HG3.out HB1.out); clear hg3 hy3)
      | (go_at_call 10; refine (HDA.out _ (gb_trans HGW.out (by repeat (first | with_reducible exact gb_refl _ _ | with_reducible refine gb_drew ?_)))).mono ?_; rintro e w2 ⟨⟨y2, rfl, hy2⟩, hg2⟩; have HY2 := Lib.hid hy2; have HG2 := Lib.hid (gb_trans (show W.grownBy _ none from (by repeat (first | with_reducible exact gb_refl _ _ | with_reducible refine gb_drew ?_))) hg2); obtain ⟨a0, a1, a2⟩ := cells2 (bx HG2.out HB0.out); obtain ⟨d0, d1, d2⟩ := cells2 (bx HG2.out HB1.out); have hb0 : b0 < w2.heap.size := hlt (bx HG2.out HB0.out); have hb1 : b1 < w2.heap.size := hlt (bx HG2.out HB1.out); clear hg2 hy2))
  all_goals
    go_wp2_with fail
    go_ret
    exact ⟨rfl, gb_trans HGW.out HG3.out⟩
end Go.Proofs.YtoahgeleenpnjaaGreatDoor
