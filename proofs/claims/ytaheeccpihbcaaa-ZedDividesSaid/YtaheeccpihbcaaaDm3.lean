/- Int: DivMod of a number below 0 that has a rest. -/
import Derived.Test.YtaheeccpihbcaaaDm2
namespace Go.Proofs.Ytaheeccpihbcaaa
open Go.RowKit Mx

theorem one_lim : 1 < Lim := by
  have h : Bw ^ 1 ≤ Bw ^ LimN := Nat.pow_le_pow_right Bw_pos (by unfold LimN; omega)
  have h2 : Bw ^ 1 = Bw := Nat.pow_one _
  have h3 : 1 < Bw := by unfold Bw; omega
  unfold Lim
  omega

theorem num_lit1 (X : World) (T : TypeId) : Num (X.alloc (.cells #[.int .u64 1] T)) (.slice (some ⟨X.heap.size, 0, none⟩) 1 1) 1 :=
  ⟨_, 1, 1, fun _ => 1, rfl, Nat.le_refl _, by unfold maxLen; omega, (Blk_one X 1 T).at0, fun _ _ => by show 1 < Bw; unfold Bw; omega, .inr (by simp), by simp [V]⟩

set_option maxHeartbeats 4000000 in
theorem dm_adjust (s2 : Bool) (v1 v2 : Value) (A B : Nat) (w : World) (h1 : Num w v1 A) (h2 : Num w v2 B) (hA : A < Lim) (hB : B < Lim) (hB0 : B ≠ 0) (hs : A % B ≠ 0) (eX : sgn true A / sgn s2 B = sgn (true != s2) ((A / B + 1 : Nat))) (eY : sgn true A % sgn s2 B = sgn false ((B - A % B : Nat))) :
    Calls Try.prog 30 #[.agg #[.bool true, v1], .agg #[.bool s2, v2]] w (DmPost (sgn true A) (sgn s2 B) w) := by
  have H1 := Lib.hid h1; have H2 := Lib.hid h2
  have HS := Lib.hid (fun w1 (hg : w.grownBy w1 none) => divide_c v1 v2 A B w1 (H1.out.kept hg) (H2.out.kept hg) hA hB hB0)
  obtain ⟨p2, n2, c2, rfl, hn2, _⟩ := num_open h2
  have hne : ((n2 : Int) == 0) = false := beq_eq_false_iff_ne.2 (by have := hn2.2 hB0; omega)
  have EX := Lib.hid eX; have EY := Lib.hid eY; have HSS := Lib.hid hs
  have LQ := Lib.hid (Nat.lt_of_le_of_lt (Nat.div_le_self A B) hA)
  have LB := Lib.hid hB
  have LR := Lib.hid (Nat.le_of_lt (Nat.mod_lt A (Nat.pos_of_ne_zero hB0)))
  have HSUM := Lib.hid (fun W a b (ha : Num W a (A / B)) (hb : Num W b 1) => sum_c a b (A / B) 1 W ha hb LQ.out one_lim)
  have HDIF := Lib.hid (fun W a b (ha : Num W a B) (hb : Num W b (A % B)) => difference_c a b B (A % B) W ha hb LB.out LR.out)
  clear h1 h2 hA hB hn2 eX eY hs LQ LB LR
  go_enter Try.func30, Try.ntmps30
  go_upto_region 4 with (go_at_call 52; refine (HS.out _ ?_).mono ?_; (repeat (first | exact gb_refl _ _ | refine gb_drew ?_ | refine gb_alloc ?_ _)); rintro e w2 ⟨q, r, rfl, hq, hr, hg⟩; have HQ := Lib.hid hq; have HR := Lib.hid hr; have HG := Lib.hid hg; obtain ⟨hcr, hfr⟩ := bcell hg; have hz : w.heap.size + 1 + 1 + 1 < w2.heap.size := (by have := hg.size; simp at this; omega); clear hq hr hg)
  obtain ⟨pq, nq, cq, rfl, hnq, _⟩ := num_open HQ.out
  obtain ⟨pr, nr, cr, rfl, hnr, _⟩ := num_open HR.out
  have hnr0 : 0 < nr := hnr.2 HSS.out
  have hnr1 : (0 : Int) < nr := by omega
  clear hnq hnr HSS
  have hcb : w2.cell? ⟨w.heap.size + 1, 1, none⟩ = some (.slice p2 n2 c2) := by
    rw [hcr _ _ (by simp <;> omega)]; go_simp
  have hlt1 : w.heap.size + 1 < w2.heap.size := by omega
  go_upto_region 5 with fail
  clear hcr hfr
  go_cut [7, 8] (fun q r wx => ∃ p n c p' n' c', q = .slice p n c ∧ r = .slice p' n' c' ∧ Hid (Num wx (.slice p n c) (A / B + 1)) ∧ Hid (Num wx (.slice p' n' c') (B - A % B)) ∧ Hid (w2.grownBy wx none))
  case first =>
    go_region_with (first
      | (go_at_call 53; refine (HSUM.out _ _ _ ?_ ?_).mono ?_; (refine HQ.out.kept ?_; (repeat (first | exact gb_refl _ _ | refine gb_trans ?_ HGf.out | refine gb_drew ?_ | refine gb_alloc ?_ _))); (first | exact num_lit1 _ _ | exact (num_lit1 _ _).kept HGf.out); rintro e w3 ⟨x, rfl, hx, hg⟩; have HNs := Lib.hid hx; have HGs := Lib.hid hg; have hcb3 := hg.cell (a := ⟨w.heap.size + 1, 1, none⟩) (v := .slice p2 n2 c2) (by first | exact hcb | go_simp) (by simp); clear hx hg)
      | (go_at_call 54; refine (HDIF.out _ _ _ ?_ ?_).mono ?_; (refine H2.out.kept ?_; (repeat (first | exact gb_refl _ _ | refine gb_trans ?_ HGs.out | refine gb_trans ?_ HG.out | refine gb_drew ?_ | refine gb_alloc ?_ _))); (refine HR.out.kept ?_; (repeat (first | exact gb_refl _ _ | refine gb_trans ?_ HGs.out | refine gb_drew ?_ | refine gb_alloc ?_ _))); rintro e w4 ⟨y, rfl, hy, hg⟩; have HNf := Lib.hid hy; have HGf := Lib.hid hg;  clear hy hg))
    all_goals
      obtain ⟨pa, na, ca, ea, _⟩ := num_open HNs.out
      obtain ⟨pb', nb', cb', eb, _⟩ := num_open HNf.out
      subst ea; subst eb
      go_wp2
      go_meet
      exact ⟨_, _, _, _, _, _, rfl, rfl, HNs.out.kept HGf.out, HNf.out, gb_trans (gb_trans (by repeat (first | exact gb_refl _ _ | refine gb_drew ?_ | refine gb_alloc ?_ _)) HGs.out) HGf.out⟩
  case rest =>
    obtain ⟨p5, n5, c5, p6, n6, c6, rfl, rfl, HQ5, HR5, HG5⟩ := hcut
    obtain ⟨hcr, hfr⟩ := bcell (gb_trans HG.out HG5.out)
    clear HQ HR hcb hlt1
    go_wp2_with fail
    refine (signed_num _ _ _ _ HQ5.out).mono ?_
    rintro e w3 ⟨x, rfl, hx, hg⟩
    obtain ⟨s3, p3, n3, c3, hxe, HX⟩ := int_parts hx
    subst hxe
    have HG3 := Lib.hid hg
    clear hx hg
    go_wp2_with fail
    refine (signed_num _ _ _ _ (HR5.out.kept HG3.out)).mono ?_
    rintro e w4 ⟨x, rfl, hx, hg⟩
    obtain ⟨s4, p4, n4, c4, hxe, HY⟩ := int_parts hx
    subst hxe
    have HG4 := Lib.hid hg
    clear hx hg
    have g4 := gb_trans HG.out (gb_trans HG5.out (gb_trans HG3.out HG4.out))
    have hz4 : w.heap.size + 1 + 1 + 1 < w4.heap.size := by have := HG5.out.size; have := HG3.out.size; have := HG4.out.size; omega
    have t1 := low3 w (.cells #[.bool true, v1] 25) (.cells #[.bool s2, .slice p2 n2 c2] 25) (.cells #[.bool false, .slice none 0 0] 25) (.cells #[.bool false, .slice none 0 0] 25)
    have t2 := top4 w (.cells #[.bool true, v1] 25) (.cells #[.bool s2, .slice p2 n2 c2] 25) (.cells #[.bool false, .slice none 0 0] 25) (.cells #[.bool false, .slice none 0 0] 25)
    obtain ⟨a0, a1, a2⟩ := cells_of ((g4.block _ (Array.getElem?_eq_some_iff.1 t1).1 (by simp)).trans t1)
    obtain ⟨b0, b1, b2⟩ := cells_of ((g4.block _ (Array.getElem?_eq_some_iff.1 t2).1 (by simp)).trans t2)
    have hfin := dm_fin t1 t2 (gb_alloc (gb_alloc (gb_alloc (gb_alloc (gb_refl w none) _) _) _) _) (show w.heap.size ≤ w.heap.size + 1 + 1 by omega) (show w.heap.size ≤ w.heap.size + 1 + 1 + 1 by omega) (show w.heap.size + 1 + 1 + 1 ≠ w.heap.size + 1 + 1 by omega) g4 (HX.out.kept HG4.out) HY.out (by have := EX.out; rwa [tb] at this) EY.out
    have HFIN := Lib.hid hfin.1
    have HRC := Lib.hid hfin.2
    clear hfin g4 t1 t2 hcr hfr
    go_wp2_with fail
    obtain ⟨k0, k1, k2, k3⟩ := HRC.out
    exact bodyPost_ret (v := .tuple #[.agg #[.bool s3, .slice p3 n3 c3], .agg #[.bool s4, .slice p4 n4 c4], .int .i64 0]) (by simp [results, Try.results30, go_sem, k0, k1, k2, k3]) rfl HFIN.out

set_option maxHeartbeats 1000000 in
theorem dm_zero (s1 s2 : Bool) (v1 v2 : Value) (A : Nat) (w : World) (h1 : Num w v1 A) (h2 : Num w v2 0) :
    Calls Try.prog 30 #[.agg #[.bool s1, v1], .agg #[.bool s2, v2]] w fun e w' => ∃ x y, e = .returned (.tuple #[x, y, .int .i64 13]) ∧ IsInt w' x 0 ∧ IsInt w' y 0 ∧ w.grownBy w' none := by
  obtain ⟨p2, n2, c2, rfl, hn2, _⟩ := num_open h2
  obtain rfl : n2 = 0 := by
    rcases Nat.eq_zero_or_pos n2 with h | h
    · exact h
    · exact absurd rfl (hn2.1 h)
  have hz : ∀ w', IsInt w' (.agg #[.bool false, .slice none 0 0]) 0 := fun w' => ⟨false, _, 0, rfl, ⟨none, 0, 0, fun _ => 0, rfl, by omega, by omega, .inl rfl, fun j hj => by omega, .inl rfl, rfl⟩, (fun h => by cases h), rfl⟩
  have HZ := Lib.hid hz
  clear h1 h2 hn2 hz
  go_enter Try.func30, Try.ntmps30
  go_wp2
  exact bodyPost_ret (v := .tuple #[.agg #[.bool false, .slice none 0 0], .agg #[.bool false, .slice none 0 0], .int .i64 13]) (by simp [results, Try.results30, go_sem]) rfl ⟨_, _, rfl, HZ.out _, HZ.out _, by repeat (first | exact gb_refl _ _ | refine gb_drew ?_ | refine gb_alloc ?_ _)⟩

theorem DivMod_c (x y : Value) (X Y : Int) (w : World) (hx : IsInt w x X) (hy : IsInt w y Y) (hX : X.natAbs < Lim) (hY : Y.natAbs < Lim) (hY0 : Y ≠ 0) : Calls Try.prog 30 #[x, y] w (DmPost X Y w) := by
  obtain ⟨s1, v1, A, rfl, n1, z1, rfl⟩ := hx
  obtain ⟨s2, v2, B, rfl, n2, z2, rfl⟩ := hy
  have e1 : (if s1 = true then -(A : Int) else A).natAbs = A := by cases s1 <;> simp
  have e2 : (if s2 = true then -(B : Int) else B).natAbs = B := by cases s2 <;> simp
  have hB0 : B ≠ 0 := by intro e; apply hY0; rw [e]; cases s2 <;> rfl
  rw [e1] at hX; rw [e2] at hY
  cases s1
  · exact dm_plain false s2 v1 v2 A B w n1 n2 hX hY hB0 (.inl rfl) (dm_nonneg s2 A B hB0).1 (dm_nonneg s2 A B hB0).2
  · by_cases h : A % B = 0
    · exact dm_plain true s2 v1 v2 A B w n1 n2 hX hY hB0 (.inr h) (dm_neg0 s2 A B hB0 h).1 (dm_neg0 s2 A B hB0 h).2
    · exact dm_adjust s2 v1 v2 A B w n1 n2 hX hY hB0 h (dm_neg1 s2 A B hB0 h).1 (dm_neg1 s2 A B hB0 h).2

theorem DivMod0_c (x y : Value) (X : Int) (w : World) (hx : IsInt w x X) (hy : IsInt w y 0) : Calls Try.prog 30 #[x, y] w fun e w' => ∃ x y, e = .returned (.tuple #[x, y, .int .i64 13]) ∧ IsInt w' x 0 ∧ IsInt w' y 0 ∧ w.grownBy w' none := by
  obtain ⟨s1, v1, A, rfl, n1, z1, rfl⟩ := hx
  obtain ⟨s2, v2, B, rfl, n2, z2, e⟩ := hy
  have hB : B = 0 := by cases s2 <;> simp at e <;> omega
  subst hB
  exact dm_zero s1 s2 v1 v2 A w n1 n2
end Go.Proofs.Ytaheeccpihbcaaa
