/- The law on sets of numbers, walked. -/
import Derived.Test.YtceehihdihemmaaBSet6
import Derived.Test.YtceehihdihemmaaBAnc
namespace Go.Proofs.Ytceehihdihemmaa
open Go.RowKit Go.Sort

/-- What is known in the law's worlds. -/
structure BK (w : World) (q7 q8 : Nat) (pa pb pS pT pU pV : Option Addr) (cS cT : Nat) (a b S T : List Int) : Prop where
  la : LAt w pa a
  lb : LAt w pb b
  lS : LAt w pS S
  lT : LAt w pT T
  lU : LAt w pU S
  lV : LAt w pV T
  b7 : w.heap[q7]? = some (.cells #[.slice pS S.length cS] 25 (0, 0))
  b8 : w.heap[q8]? = some (.cells #[.slice pT T.length cT] 25 (0, 0))

theorem BK.kept {w w' : World} {q7 q8 : Nat} {pa pb pS pT pU pV : Option Addr} {cS cT : Nat} {a b S T : List Int} (h : BK w q7 q8 pa pb pS pT pU pV cS cT a b S T) (hg : w.grownBy w' none) : BK w' q7 q8 pa pb pS pT pU pV cS cT a b S T :=
  ⟨h.la.kept hg, h.lb.kept hg, h.lS.kept hg, h.lT.kept hg, h.lU.kept hg, h.lV.kept hg, bx hg h.b7, bx hg h.b8⟩

theorem below_gb_le {B : Nat} {a b : World} {o : World} (h : Below B a b) (hg : o.grownBy a none) (hB : o.heap.size ≤ B := by exact Nat.le_refl _) : o.grownBy b none :=
  ⟨h.os.trans hg.os, h.tape.trans hg.tape, h.output.trans hg.output, Nat.le_trans hg.size h.size, fun k hk _ => (h.block k (by omega)).trans (hg.block k hk (by simp))⟩

theorem set_uniq {S T zs : List Int} (h : SetOf S zs) (k : SetOf T zs) : S = T := asc_ext h.1 k.1 fun x => by rw [h.2, k.2]

set_option maxRecDepth 100000 in
set_option maxHeartbeats 8000000 in
theorem sets_c (pa pb : Option Addr) (ca cb : Nat) (a b : List Int) (x : Int) (w : World) (ha : a.length ≤ ca) (hb : b.length ≤ cb) (hal : a.length < 9223372036854775808) (hbl : b.length < 9223372036854775808) (h1 : LAt w pa a) (h2 : LAt w pb b) :
    Calls Try.prog 3 #[.slice pa a.length ca, .slice pb b.length cb, .int .i64 x] w (ValPost (.bool true) w) := by
  have HA := Lib.hid h1; have HB := Lib.hid h2
  clear h1 h2
  go_enter Try.func3, Try.ntmps3
  go_wp2_with fail
  refine (anchor_c _).mono ?_
  rintro e w1 ⟨rfl, g1⟩
  have G1 := Lib.hid g1
  clear g1
  by_cases ha60 : 60 < a.length
  · have d1 : decide ((60 : Int) < a.length) = true := decide_eq_true (by omega)
    go_wp2_with fail
    go_ret
    exact ⟨rfl, G1.out⟩
  have d1 : decide ((60 : Int) < a.length) = false := decide_eq_false (by omega)
  by_cases hb60 : 60 < b.length
  · have d2 : decide ((60 : Int) < b.length) = true := decide_eq_true (by omega)
    go_wp2_with fail
    go_ret
    exact ⟨rfl, G1.out⟩
  have d2 : decide ((60 : Int) < b.length) = false := decide_eq_false (by omega)
  go_wp2_with fail
  refine (Of_c pa ca a _ (by omega) ha (HA.out.kept G1.out)).mono ?_
  rintro e w2 ⟨S, pS, nS, cS, rfl, hset, ⟨p6, c6, he, hi1, hi2, hi3⟩, -, hlen, hg⟩
  injection he with e1 e2 e3; subst e1; subst e2; subst e3
  have HS := Lib.hid hset; have HIS1 := Lib.hid hi1; have HIS2 := Lib.hid hi2; have HIS3 := Lib.hid hi3; have HLS := Lib.hid hlen
  have G2 := Lib.hid (gb_trans G1.out hg)
  clear hset hi1 hi2 hi3 hlen hg G1
  go_wp2_with fail
  refine (Of_c pb cb b _ (by omega) hb (HB.out.kept G2.out)).mono ?_
  rintro e w3 ⟨T, pT, nT, cT, rfl, hset, ⟨p6, c6, he, hi1, hi2, hi3⟩, -, hlen, hg⟩
  injection he with e1 e2 e3; subst e1; subst e2; subst e3
  obtain ⟨W, hW, b7, b8, gW⟩ : ∃ W, W = (w3.alloc (.cells #[.slice pS S.length cS] 25)).alloc (.cells #[.slice pT T.length cT] 25) ∧ W.heap[w3.heap.size]? = some (.cells #[.slice pS S.length cS] 25 (0, 0)) ∧ W.heap[w3.heap.size + 1]? = some (.cells #[.slice pT T.length cT] 25 (0, 0)) ∧ w3.grownBy W none := by
    have k1 := heap_alloc_new w3 (.cells #[.slice pS S.length cS] 25)
    have g2 := World.grownBy_alloc (w3.alloc (.cells #[.slice pS S.length cS] 25)) (.cells #[.slice pT T.length cT] 25) none
    have k2 := heap_alloc_new (w3.alloc (.cells #[.slice pS S.length cS] 25)) (.cells #[.slice pT T.length cT] 25)
    rw [World.size_alloc] at k2
    exact ⟨_, rfl, bx g2 k1, k2, gb_trans (World.grownBy_alloc _ _ _) g2⟩
  have HT := Lib.hid hset; have HIT1 := Lib.hid hi1; have HIT2 := Lib.hid hi2; have HIT3 := Lib.hid (hi3.kept gW); have HLT := Lib.hid hlen
  have HIS3 := Lib.hid (HIS3.out.kept (gb_trans hg gW))
  have G3 := Lib.hid (gb_trans G2.out (gb_trans hg gW)); have HB7 := Lib.hid b7; have HB8 := Lib.hid b8
  clear hset hi1 hi2 hi3 hlen hg G2 b7 b8 gW
  go_wp2_with fail
  rw [← hW]
  clear hW
  generalize w3.heap.size = q at *
  refine (ROf_c pa ca a _ (by omega) (HA.out.kept G3.out)).mono ?_
  rintro e w4 ⟨U, pU, nU, cU, rfl, ⟨hu, -⟩, ⟨pz, cz, he, hi1, hi2, hi3⟩, hg⟩
  injection he with e1 e2 e3; subst e1; subst e2; subst e3
  obtain rfl : U = S := set_uniq hu HS.out
  have HU := Lib.hid hi3; have HIS3 := Lib.hid (HIS3.out.kept hg); have HIT3 := Lib.hid (HIT3.out.kept hg); have HB7 := Lib.hid (bx hg HB7.out); have HB8 := Lib.hid (bx hg HB8.out)
  have G4 := Lib.hid (gb_trans G3.out hg)
  clear hu hi1 hi2 hi3 hg G3
  go_wp2_with fail
  refine (ROf_c pb cb b _ (by omega) (HB.out.kept G4.out)).mono ?_
  rintro e w5 ⟨V, pV, nV, cV, rfl, ⟨hv, -⟩, ⟨pz, cz, he, hi1, hi2, hi3⟩, hg⟩
  injection he with e1 e2 e3; subst e1; subst e2; subst e3
  obtain rfl : V = T := set_uniq hv HT.out
  have G := Lib.hid (gb_trans G4.out hg)
  have HK : Hid (BK w5 q (q + 1) pa pb pS pT pU pV cS cT a b U V) := Lib.hid ⟨HA.out.kept G.out, HB.out.kept G.out, HIS3.out.kept hg, HIT3.out.kept hg, HU.out.kept hg, hi3, bx hg HB7.out, bx hg HB8.out⟩
  clear hv hi1 hi2 hi3 hg G4 HIS3 HIT3 HU HB7 HB8
  have hro : OwnL (w5.alloc (.cells #[] 3)) w5.heap.size (.slice (some ⟨w5.heap.size, 0, none⟩) 0 0) [] := World.ownsRow_made w5 #[] 0 (Nat.le_refl _) (by unfold maxLen; omega) rfl
  have HRO := Lib.hid hro
  have hga := World.grownBy_alloc w5 (.cells #[] 3) none
  have HGA := Lib.hid hga; have HKA := Lib.hid (HK.out.kept hga)
  clear hro hga
  go_wp2_with (at_builtin; go_loud (refine wpList_appL (t := 22) Try.underlying22 rfl _ _ rfl w5.heap.size [] a pa ca (.slice (some ⟨w5.heap.size, 0, none⟩) 0 0) rfl HRO.out HKA.out.la a.length rfl rfl (by simp) (by omega) (by simp) ?_))
  intro p6 n6 c6 w6 hn6 hO6 hB6
  have hO6 : OwnL w6 w5.heap.size (.slice p6 n6 c6) a := by simpa using hO6
  have HO6 := Lib.hid hO6
  have hg6 : w5.grownBy w6 none := below_gb (Below.trans2 (Below.gb HGA.out (Nat.le_refl _)) hB6)
  have HK6 := Lib.hid (HK.out.kept hg6); have HG6 := Lib.hid hg6
  clear hO6 hB6 hg6 hn6
  go_wp2_with (at_builtin; go_loud (refine wpList_appL (t := 22) Try.underlying22 rfl _ _ rfl w5.heap.size a b pb cb (.slice p6 n6 c6) rfl HO6.out HK6.out.lb b.length rfl rfl (by omega) (by omega) HG6.out.size ?_))
  intro p7 n7 c7 w7 hn7 hO7 hB7
  obtain ⟨AB, hAB⟩ : ∃ AB, a ++ b = AB := ⟨_, rfl⟩
  have hABl : AB.length = n7 := by rw [← hAB]; simp [hn7]
  rw [hAB] at hO7
  have hl7 := (isL_of_row (S := AB) (hABl ▸ hO7)).1
  obtain ⟨pz, cz, he, -, -, hl7⟩ := hl7
  injection he with e1 e2 e3; subst e1; subst e3
  have HC := ROf_c p7 c7 AB w7 (by rw [hABl, hn7]; omega) hl7
  rw [hABl] at HC
  have HCO := Lib.hid HC
  have hg7 : w5.grownBy w7 none := below_gb_le hB7 HG6.out
  have HK := Lib.hid (HK.out.kept hg7); have G := Lib.hid (gb_trans G.out hg7); have HAB := Lib.hid hAB; have HABL := Lib.hid (show n7 ≤ 120 by omega)
  clear hn7 hO7 hB7 hABl hl7 HC hg7 hAB HRO HGA HKA HO6 HK6 HG6 e2
  go_wp2_with fail
  refine HCO.out.mono ?_
  rintro e w8 ⟨L, pL, nL, cL, rfl, ⟨hl, hlL⟩, ⟨pz, cz, he, hi1, hi2, hi3⟩, hg⟩
  injection he with e1 e2 e3; subst e1; subst e2; subst e3
  have HSL : Hid (SetOf L AB) := Lib.hid hl
  have HL := Lib.hid hi3
  have HLL : Hid (L.length ≤ 1000000) := Lib.hid (by have e1 := hlL; have e2 := HABL.out; omega)
  have HK := Lib.hid (HK.out.kept hg); have G := Lib.hid (gb_trans G.out hg)
  have HUL := Lib.hid (show U.length ≤ 10000 by have := HLS.out; omega); have HVL := Lib.hid (show V.length ≤ 10000 by have := HLT.out; omega)
  have hvl : V.length ≤ 10000 := HVL.out
  clear hl hlL hi1 hi2 hi3 hg HCO hvl
  have c7 := (cellb HK.out.b7).1; have c8 := (cellb HK.out.b8).1
  go_wp2_with fail
  refine (Items_c pS cS U _ (by have := HUL.out; omega) HK.out.lS).mono ?_
  rintro e w9 ⟨p9, n9, c9, rfl, ⟨pz, cz, he, hi1, hi2, hi3⟩, -, hg⟩
  have HK := Lib.hid (HK.out.kept hg); have G := Lib.hid (gb_trans G.out hg)
  have HL := Lib.hid (HL.out.kept hg)
  injection he with e1 e2 e3; subst e1; subst e2; subst e3
  have H3a := Lib.hid hi3; have H1a := Lib.hid hi1; have H2a := Lib.hid hi2
  clear hi1 hi2 hi3
  clear c7 c8 hg
  have c7 := (cellb HK.out.b7).1; have c8 := (cellb HK.out.b8).1
  go_wp2_with fail
  refine (RSame_c p9 pU c9 cU U U _ (by have := HUL.out; omega) H3a.out HK.out.lU).mono ?_
  rintro e w10 ⟨rfl, hg⟩
  have HK := Lib.hid (HK.out.kept hg); have G := Lib.hid (gb_trans G.out hg)
  have HL := Lib.hid (HL.out.kept hg)
  rw [decide_eq_true (rfl : U = U)]
  clear c7 c8 hg
  have c7 := (cellb HK.out.b7).1; have c8 := (cellb HK.out.b8).1
  go_wp2_with fail
  refine (Len_c pS U.length cS _).mono ?_
  rintro e w11 ⟨rfl, hg⟩
  have HK := Lib.hid (HK.out.kept hg); have G := Lib.hid (gb_trans G.out hg)
  have HL := Lib.hid (HL.out.kept hg)
  have hll : ((U.length : Int) == (U.length : Int)) = true := by simp
  clear c7 c8 hg
  have c7 := (cellb HK.out.b7).1; have c8 := (cellb HK.out.b8).1
  obtain ⟨bh, hbh⟩ : ∃ bh, decide (x ∈ U) = bh := ⟨_, rfl⟩
  have HBH := Lib.hid hbh
  clear hbh
  go_wp2_with fail
  refine (Has_c pS cS U x _ (by have := HUL.out; omega) HS.out.1 HK.out.lS).mono ?_
  rintro e w12 ⟨rfl, hg⟩
  have HK := Lib.hid (HK.out.kept hg); have G := Lib.hid (gb_trans G.out hg)
  have HL := Lib.hid (HL.out.kept hg)
  rw [HBH.out]
  clear c7 c8 hg
  have c7 := (cellb HK.out.b7).1; have c8 := (cellb HK.out.b8).1
  go_wp2_with fail
  refine (RHas_c pU cU U x _ (by have := HUL.out; omega) HK.out.lU).mono ?_
  rintro e wh ⟨rfl, rfl⟩
  rw [HBH.out]
  have hbb : (bh == bh) = true := by simp
  have hvl : b.length ≤ 10000 := by omega
  go_wp2_with fail
  refine (With_c pS pb cS cb U b _ HUL.out hvl HS.out.1 HIS1.out HIS2.out hb HK.out.lS HK.out.lb).mono ?_
  rintro e w13 ⟨X1, pX, nX, cX, rfl, hX, hXa, ⟨pz, cz, he, hi1, hi2, hi3⟩, hg⟩
  have HK := Lib.hid (HK.out.kept hg); have G := Lib.hid (gb_trans G.out hg)
  have HL := Lib.hid (HL.out.kept hg)
  injection he with e1 e2 e3; subst e1; subst e2; subst e3
  have H3x := Lib.hid hi3; have H1x := Lib.hid hi1; have H2x := Lib.hid hi2
  clear hi1 hi2 hi3
  have HX := Lib.hid hX; have HXA := Lib.hid hXa
  clear hX hXa
  clear c7 c8 hg
  have c7 := (cellb HK.out.b7).1; have c8 := (cellb HK.out.b8).1
  have HXE : Hid (X1 = L) := Lib.hid (asc_ext HXA.out HSL.out.1 fun y => by rw [HX.out, HSL.out.2, ← HAB.out, List.mem_append, HS.out.2])
  go_wp2_with fail
  refine (Items_c pX cX X1 _ (by rw [HXE.out]; exact HLL.out) H3x.out).mono ?_
  rintro e w14 ⟨p10, n10, c10, rfl, ⟨pz, cz, he, hi1, hi2, hi3⟩, -, hg⟩
  have HK := Lib.hid (HK.out.kept hg); have G := Lib.hid (gb_trans G.out hg)
  have HL := Lib.hid (HL.out.kept hg)
  injection he with e1 e2 e3; subst e1; subst e2; subst e3
  have H3b := Lib.hid hi3; have H1b := Lib.hid hi1; have H2b := Lib.hid hi2
  clear hi1 hi2 hi3
  clear c7 c8 hg
  have c7 := (cellb HK.out.b7).1; have c8 := (cellb HK.out.b8).1
  go_wp2_with fail
  refine (RSame_c p10 pL c10 cL X1 L _ (by rw [HXE.out]; exact HLL.out) H3b.out HL.out).mono ?_
  rintro e w15 ⟨rfl, hg⟩
  have HK := Lib.hid (HK.out.kept hg); have G := Lib.hid (gb_trans G.out hg)
  rw [decide_eq_true HXE.out]
  clear c7 c8 hg
  have c7 := (cellb HK.out.b7).1; have c8 := (cellb HK.out.b8).1
  go_wp2_with fail
  refine (Without_c pS pb cS cb U b _ HUL.out hvl HS.out.1 hb HK.out.lS HK.out.lb).mono ?_
  rintro e w16 ⟨X2, pX2, nX2, cX2, rfl, hX, hXa, ⟨pz, cz, he, hi1, hi2, hi3⟩, hg⟩
  have HK := Lib.hid (HK.out.kept hg); have G := Lib.hid (gb_trans G.out hg)
  injection he with e1 e2 e3; subst e1; subst e2; subst e3
  have H3y := Lib.hid hi3; have H1y := Lib.hid hi1; have H2y := Lib.hid hi2
  clear hi1 hi2 hi3
  have HX2 := Lib.hid hX; have HXA2 := Lib.hid hXa
  clear hX hXa
  clear c7 c8 hg
  have c7 := (cellb HK.out.b7).1; have c8 := (cellb HK.out.b8).1
  have HYE : Hid (X2 = U.filter fun z => decide (z ∈ V) == false) := Lib.hid (asc_ext HXA2.out (HS.out.1.filter _) fun y => by rw [HX2.out, List.mem_filter, ← HT.out.2]; simp)
  have HX2L : Hid (X2.length ≤ 1000000) := Lib.hid (by rw [HYE.out]; have e1 := List.length_filter_le (fun z => decide (z ∈ V) == false) U; have := HUL.out; omega)
  go_wp2_with fail
  refine (Items_c pX2 cX2 X2 _ HX2L.out H3y.out).mono ?_
  rintro e w17 ⟨p11, n11, c11, rfl, ⟨pz, cz, he, hi1, hi2, hi3⟩, -, hg⟩
  have HK := Lib.hid (HK.out.kept hg); have G := Lib.hid (gb_trans G.out hg)
  injection he with e1 e2 e3; subst e1; subst e2; subst e3
  have H3c := Lib.hid hi3; have H1c := Lib.hid hi1; have H2c := Lib.hid hi2
  clear hi1 hi2 hi3
  clear c7 c8 hg
  have c7 := (cellb HK.out.b7).1; have c8 := (cellb HK.out.b8).1
  go_wp2_with fail
  refine (RBoth_c pU pV cU cV U V false _ (by have := HUL.out; omega) (by have := HVL.out; omega) HK.out.lU HK.out.lV).mono ?_
  rintro e w18 ⟨Y2, p12, n12, c12, rfl, hY, ⟨pz, cz, he, hi1, hi2, hi3⟩, hg⟩
  have HK := Lib.hid (HK.out.kept hg); have G := Lib.hid (gb_trans G.out hg)
  injection he with e1 e2 e3; subst e1; subst e2; subst e3
  have H3d := Lib.hid hi3; have H1d := Lib.hid hi1; have H2d := Lib.hid hi2
  clear hi1 hi2 hi3
  have HY2 := Lib.hid hY
  have H3c := Lib.hid (H3c.out.kept hg)
  clear hY
  clear c7 c8 hg
  have c7 := (cellb HK.out.b7).1; have c8 := (cellb HK.out.b8).1
  go_wp2_with fail
  refine (RSame_c p11 p12 c11 c12 X2 Y2 _ HX2L.out H3c.out H3d.out).mono ?_
  rintro e w19 ⟨rfl, hg⟩
  have HK := Lib.hid (HK.out.kept hg); have G := Lib.hid (gb_trans G.out hg)
  rw [decide_eq_true (show X2 = Y2 by rw [HYE.out, HY2.out])]
  clear c7 c8 hg
  have c7 := (cellb HK.out.b7).1; have c8 := (cellb HK.out.b8).1
  go_wp2_with fail
  refine (Both_c pS pT cS cT U V _ HUL.out HVL.out HS.out.1 HT.out.1 HK.out.lS HK.out.lT).mono ?_
  rintro e w20 ⟨X3, pX3, nX3, cX3, rfl, hX, hXa, ⟨pz, cz, he, hi1, hi2, hi3⟩, hg⟩
  have HK := Lib.hid (HK.out.kept hg); have G := Lib.hid (gb_trans G.out hg)
  injection he with e1 e2 e3; subst e1; subst e2; subst e3
  have H3e := Lib.hid hi3; have H1e := Lib.hid hi1; have H2e := Lib.hid hi2
  clear hi1 hi2 hi3
  have HX3 := Lib.hid hX; have HXA3 := Lib.hid hXa
  clear hX hXa
  clear c7 c8 hg
  have c7 := (cellb HK.out.b7).1; have c8 := (cellb HK.out.b8).1
  have HZE : Hid (X3 = U.filter fun z => decide (z ∈ V) == true) := Lib.hid (asc_ext HXA3.out (HS.out.1.filter _) fun y => by rw [HX3.out, List.mem_filter]; simp)
  have HX3L : Hid (X3.length ≤ 1000000) := Lib.hid (by rw [HZE.out]; have e1 := List.length_filter_le (fun z => decide (z ∈ V) == true) U; have := HUL.out; omega)
  go_wp2_with fail
  refine (Items_c pX3 cX3 X3 _ HX3L.out H3e.out).mono ?_
  rintro e w21 ⟨p13, n13, c13, rfl, ⟨pz, cz, he, hi1, hi2, hi3⟩, -, hg⟩
  have HK := Lib.hid (HK.out.kept hg); have G := Lib.hid (gb_trans G.out hg)
  injection he with e1 e2 e3; subst e1; subst e2; subst e3
  have H3f := Lib.hid hi3; have H1f := Lib.hid hi1; have H2f := Lib.hid hi2
  clear hi1 hi2 hi3
  clear c7 c8 hg
  have c7 := (cellb HK.out.b7).1; have c8 := (cellb HK.out.b8).1
  go_wp2_with fail
  refine (RBoth_c pU pV cU cV U V true _ (by have := HUL.out; omega) (by have := HVL.out; omega) HK.out.lU HK.out.lV).mono ?_
  rintro e w22 ⟨Y3, p14, n14, c14, rfl, hY, ⟨pz, cz, he, hi1, hi2, hi3⟩, hg⟩
  have HK := Lib.hid (HK.out.kept hg); have G := Lib.hid (gb_trans G.out hg)
  injection he with e1 e2 e3; subst e1; subst e2; subst e3
  have H3g := Lib.hid hi3; have H1g := Lib.hid hi1; have H2g := Lib.hid hi2
  clear hi1 hi2 hi3
  have HY3 := Lib.hid hY
  have H3f := Lib.hid (H3f.out.kept hg)
  clear hY
  clear c7 c8 hg
  have c7 := (cellb HK.out.b7).1; have c8 := (cellb HK.out.b8).1
  go_wp2_with fail
  refine (RSame_c p13 p14 c13 c14 X3 Y3 _ HX3L.out H3f.out H3g.out).mono ?_
  rintro e w23 ⟨rfl, hg⟩
  have HK := Lib.hid (HK.out.kept hg); have G := Lib.hid (gb_trans G.out hg)
  rw [decide_eq_true (show X3 = Y3 by rw [HZE.out, HY3.out])]
  clear c7 c8 hg
  have c7 := (cellb HK.out.b7).1; have c8 := (cellb HK.out.b8).1
  obtain ⟨bw, hbw⟩ : ∃ bw, decide (∀ z, z ∈ U → z ∈ V) = bw := ⟨_, rfl⟩
  have HBW := Lib.hid hbw
  clear hbw
  go_wp2_with fail
  refine (Within_c pS pT cS cT U V _ (by have := HUL.out; omega) (by have := HVL.out; omega) HT.out.1 HK.out.lS HK.out.lT).mono ?_
  rintro e w24 ⟨rfl, hg⟩
  have HK := Lib.hid (HK.out.kept hg); have G := Lib.hid (gb_trans G.out hg)
  rw [HBW.out]
  clear c7 c8 hg
  have c7 := (cellb HK.out.b7).1; have c8 := (cellb HK.out.b8).1
  go_wp2_with fail
  refine (RBoth_c pU pV cU cV U V false _ (by have := HUL.out; omega) (by have := HVL.out; omega) HK.out.lU HK.out.lV).mono ?_
  rintro e w25 ⟨Y4, p15, n15, c15, rfl, hY, ⟨pz, cz, he, hi1, hi2, hi3⟩, hg⟩
  have HK := Lib.hid (HK.out.kept hg); have G := Lib.hid (gb_trans G.out hg)
  injection he with e1 e2 e3; subst e1; subst e2; subst e3
  have H3h := Lib.hid hi3; have H1h := Lib.hid hi1; have H2h := Lib.hid hi2
  clear hi1 hi2 hi3
  have HY4 := Lib.hid hY
  clear hY
  clear c7 c8 hg
  have c7 := (cellb HK.out.b7).1; have c8 := (cellb HK.out.b8).1
  have hwl : ((Y4.length : Int) == 0) = bw := by
    rw [← HBW.out]
    have e1 : (Y4.length = 0) ↔ ∀ z, z ∈ U → z ∈ V := by
      rw [List.length_eq_zero_iff, HY4.out, List.filter_eq_nil_iff]
      simp
    by_cases h0 : Y4.length = 0
    · rw [decide_eq_true (e1.1 h0)]; simp [h0]
    · rw [decide_eq_false (fun h => h0 (e1.2 h))]; simp; intro h; exact h0 (by rw [h]; rfl)
  have hbw2 : (bw == bw) = true := by simp
  go_wp2_with fail
  refine (Items_c pS cS U _ (by have := HUL.out; omega) HK.out.lS).mono ?_
  rintro e w26 ⟨p16, n16, c16, rfl, ⟨pz, cz, he, hi1, hi2, hi3⟩, -, hg⟩
  have HK := Lib.hid (HK.out.kept hg); have G := Lib.hid (gb_trans G.out hg)
  injection he with e1 e2 e3; subst e1; subst e2; subst e3
  have H3i := Lib.hid hi3; have H1i := Lib.hid hi1; have H2i := Lib.hid hi2
  clear hi1 hi2 hi3
  clear c7 c8 hg
  have c7 := (cellb HK.out.b7).1; have c8 := (cellb HK.out.b8).1
  go_wp2_with fail
  refine (RSame_c p16 pU c16 cU U U _ (by have := HUL.out; omega) H3i.out HK.out.lU).mono ?_
  rintro e wl ⟨rfl, hg⟩
  rw [decide_eq_true (rfl : U = U)]
  have HFIN := Lib.hid (gb_trans G.out hg)
  clear hg
  go_wp2_with fail
  go_ret
  exact ⟨rfl, HFIN.out⟩
end Go.Proofs.Ytceehihdihemmaa
