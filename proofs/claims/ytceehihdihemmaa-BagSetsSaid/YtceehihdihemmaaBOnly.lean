/- Sets parted: what stays. -/
import Derived.Test.YtceehihdihemmaaBSet5
namespace Go.Proofs.Ytceehihdihemmaa
open Go.RowKit Go.Sort

set_option maxRecDepth 100000 in
set_option maxHeartbeats 4000000 in
theorem only1_c (q : Nat) (st : Int → Bool) (p1 : Option Addr) (c1 : Nat) (S : List Int) (w : World) (hl : S.length ≤ 10000) (hasc : Asc S) (h1 : LAt w p1 S)
    (hst : ∀ (y : Int) (w' : World), w.grownBy w' none → Calls Try.prog 53 #[.int .i64 y, .pointer (some ⟨q, 0, none⟩)] w' (BoolPost (st y) w')) :
    Calls Try.prog 52 #[.agg #[.slice p1 S.length c1], .func (.func 53) #[] #[.pointer (some ⟨q, 0, none⟩)]] w (SetPost w (fun T => T = S.filter st)) := by
  obtain ⟨W, hW, b0, b1, gW⟩ := two_boxes w (.slice p1 S.length c1) 25
  obtain ⟨n, hn⟩ : ∃ n, S.length = n := ⟨_, rfl⟩
  have HN := Lib.hid hn; have HST := Lib.hid hst; have HASC := Lib.hid hasc
  have HB1 := Lib.hid b1; have HGW := Lib.hid gW
  have HA := Lib.hid (h1.kept gW)
  have hS := show W.cell? ⟨w.heap.size, 0, none⟩ = some (.slice p1 S.length c1) by rw [cell_of_row _ _ 0 _ _ (0, 0) b0]; rfl
  have HSZ : Hid (w.heap.size + 1 < W.heap.size) := Lib.hid (Array.getElem?_eq_some_iff.1 b1).1
  rw [hn] at hl hW hS ⊢
  clear hn h1 b0 b1 gW hst hasc
  go_enter Try.func52, Try.ntmps52
  go_wp2_with fail
  rw [← hW]
  clear hW
  go_wp2_with fail
  go_loopw [5, 11] (fun v i wr => ∃ k : Nat, k ≤ n ∧ i = .int .i64 k ∧ Hid (OwnL wr W.heap.size v ((S.take k).filter st)) ∧ Hid (Below W.heap.size W wr)) (fun _ i _ => n - (intOf i).toNat)
  case atStart => exact ⟨0, by omega, rfl, Lib.hid (by simpa using OwnL.nil W W.heap.size), Below.refl _ _⟩
  case round =>
    obtain ⟨k, hk, rfl, HO, HB⟩ := hrel
    by_cases hlt : k < n
    · have hne1 : S ≠ [] := fun e => by have := HN.out; rw [e] at this; simp at this; omega
      obtain ⟨g1, o1, rfl, hg1, hc1⟩ := HA.out.resolve_left hne1
      have hck := (HB.out.cell (p := ⟨g1, o1 + k, none⟩) hg1).trans (hc1 k (by have := HN.out; omega))
      have HT := Lib.hid (take_more (l := S) (k := k) (by have := HN.out; omega)).1
      clear hc1 hne1
      generalize S.getD k 0 = y at *
      have HC := Lib.hid (HST.out y wr (gb_trans HGW.out (below_gb HB.out)))
      have HLEN : Hid (((S.take k).filter st).length ≤ 1000000) := Lib.hid (by
        have e1 := List.length_filter_le st (S.take k)
        have e2 : (S.take k).length ≤ k := by simp; omega
        omega)
      obtain ⟨ok, hok⟩ : ∃ ok, st y = ok := ⟨_, rfl⟩
      rw [hok] at HC
      cases ok with
      | true =>
        have HF : Hid ((S.take (k + 1)).filter st = (S.take k).filter st ++ [y]) := Lib.hid (by rw [HT.out, List.filter_append]; simp [hok])
        clear hok
        go_wp2_with fail
        refine HC.out.mono ?_
        rintro e w2 ⟨rfl, hg⟩
        have HG := Lib.hid hg
        have HB2 := Lib.hid (Below.trans2 HB.out (Below.gb hg HB.out.size))
        clear hg
        go_wp2_with (at_builtin; go_loud (refine wpList_appI (t := 22) Try.underlying22 rfl _ _ rfl W.heap.size ((S.take k).filter st) y u5 rfl (HO.out.kept HG.out) _ rfl rfl HLEN.out HB2.out.size ?_))
        intro g' cap' w3 hO3 hB3
        have HO3 := Lib.hid (show OwnL w3 W.heap.size _ ((S.take (k + 1)).filter st) from HF.out ▸ hO3)
        have HB3 := Lib.hid (Below.trans2 HB2.out hB3)
        clear hO3 hB3
        go_wp2_with fail
        go_roundw
        case rel => exact ⟨k + 1, by omega, by go_num, HO3, HB3⟩
        case measure => simp [intOf]; omega
      | false =>
        have HF : Hid ((S.take (k + 1)).filter st = (S.take k).filter st) := Lib.hid (by rw [HT.out, List.filter_append]; simp [hok])
        clear hok
        go_wp2_with fail
        refine HC.out.mono ?_
        rintro e w2 ⟨rfl, hg⟩
        have HG := Lib.hid hg
        have HB2 := Lib.hid (Below.trans2 HB.out (Below.gb hg HB.out.size))
        clear hg
        go_wp2_with fail
        go_roundw
        case rel => exact ⟨k + 1, by omega, by go_num, Lib.hid (HF.out.symm ▸ HO.out.kept HG.out), HB2⟩
        case measure => simp [intOf]; omega
    · obtain rfl : k = n := by omega
      have hO := HO.out
      rw [List.take_of_length_le (by have := HN.out; omega)] at hO
      have hv : ∃ p' c', u5 = .slice p' (S.filter st).length c' := by
        rcases hO.2 with ⟨e1, e2⟩ | ⟨g, cap, cur, e1, _⟩
        · exact ⟨_, _, e1.trans (by rw [e2])⟩
        · exact ⟨_, _, e1⟩
      obtain ⟨p', c', rfl⟩ := hv
      obtain ⟨⟨p6, c6, he, hi1, hi2, hi3⟩, -⟩ := isL_of_row (S := S.filter st) hO
      injection he with e1 e2 e3; subst e1; subst e3
      have HI1 := Lib.hid hi1; have HI2 := Lib.hid hi2
      obtain ⟨hcb, hcf⟩ := cellb (bx (below_gb HB.out) HB1.out)
      obtain ⟨k1, k2, k3⟩ := set_ret (c := c') HB1.out (below_gb HB.out) hi3 HGW.out (by omega)
      have K1 := Lib.hid k1; have K2 := Lib.hid k2
      clear k1 k2 hO hi1 hi2 hi3 HO e2 hS
      generalize hul : (S.filter st).length = ul at *
      have HUL := Lib.hid hul
      clear hul
      go_wp2_with fail
      exact bodyPost_ret (v := .agg #[.slice p' ul c']) (by simp [results, Try.results52, go_sem, k3]) rfl ⟨S.filter st, p', ul, c', rfl, rfl, HASC.out.filter _, ⟨p', c', by rw [HUL.out], by rw [HUL.out]; exact HI1.out, HI2.out, K1.out⟩, K2.out⟩

set_option maxRecDepth 100000 in
set_option maxHeartbeats 4000000 in
theorem only2_c (p2 : Option Addr) (n2 c2 : Nat) (st : Int → Bool) (p1 : Option Addr) (c1 : Nat) (S : List Int) (w : World) (hl : S.length ≤ 10000) (hasc : Asc S) (h1 : LAt w p1 S)
    (hst : ∀ (y : Int) (w' : World), w.grownBy w' none → Calls Try.prog 15 #[.agg #[.slice p2 n2 c2], .int .i64 y] w' (BoolPost (st y) w')) :
    Calls Try.prog 52 #[.agg #[.slice p1 S.length c1], .func (.func 15) #[.agg #[.slice p2 n2 c2]] #[]] w (SetPost w (fun T => T = S.filter st)) := by
  obtain ⟨W, hW, b0, b1, gW⟩ := two_boxes w (.slice p1 S.length c1) 25
  obtain ⟨n, hn⟩ : ∃ n, S.length = n := ⟨_, rfl⟩
  have HN := Lib.hid hn; have HST := Lib.hid hst; have HASC := Lib.hid hasc
  have HB1 := Lib.hid b1; have HGW := Lib.hid gW
  have HA := Lib.hid (h1.kept gW)
  have hS := show W.cell? ⟨w.heap.size, 0, none⟩ = some (.slice p1 S.length c1) by rw [cell_of_row _ _ 0 _ _ (0, 0) b0]; rfl
  have HSZ : Hid (w.heap.size + 1 < W.heap.size) := Lib.hid (Array.getElem?_eq_some_iff.1 b1).1
  rw [hn] at hl hW hS ⊢
  clear hn h1 b0 b1 gW hst hasc
  go_enter Try.func52, Try.ntmps52
  go_wp2_with fail
  rw [← hW]
  clear hW
  go_wp2_with fail
  go_loopw [5, 11] (fun v i wr => ∃ k : Nat, k ≤ n ∧ i = .int .i64 k ∧ Hid (OwnL wr W.heap.size v ((S.take k).filter st)) ∧ Hid (Below W.heap.size W wr)) (fun _ i _ => n - (intOf i).toNat)
  case atStart => exact ⟨0, by omega, rfl, Lib.hid (by simpa using OwnL.nil W W.heap.size), Below.refl _ _⟩
  case round =>
    obtain ⟨k, hk, rfl, HO, HB⟩ := hrel
    by_cases hlt : k < n
    · have hne1 : S ≠ [] := fun e => by have := HN.out; rw [e] at this; simp at this; omega
      obtain ⟨g1, o1, rfl, hg1, hc1⟩ := HA.out.resolve_left hne1
      have hck := (HB.out.cell (p := ⟨g1, o1 + k, none⟩) hg1).trans (hc1 k (by have := HN.out; omega))
      have HT := Lib.hid (take_more (l := S) (k := k) (by have := HN.out; omega)).1
      clear hc1 hne1
      generalize S.getD k 0 = y at *
      have HC := Lib.hid (HST.out y wr (gb_trans HGW.out (below_gb HB.out)))
      have HLEN : Hid (((S.take k).filter st).length ≤ 1000000) := Lib.hid (by
        have e1 := List.length_filter_le st (S.take k)
        have e2 : (S.take k).length ≤ k := by simp; omega
        omega)
      obtain ⟨ok, hok⟩ : ∃ ok, st y = ok := ⟨_, rfl⟩
      rw [hok] at HC
      cases ok with
      | true =>
        have HF : Hid ((S.take (k + 1)).filter st = (S.take k).filter st ++ [y]) := Lib.hid (by rw [HT.out, List.filter_append]; simp [hok])
        clear hok
        go_wp2_with fail
        refine HC.out.mono ?_
        rintro e w2 ⟨rfl, hg⟩
        have HG := Lib.hid hg
        have HB2 := Lib.hid (Below.trans2 HB.out (Below.gb hg HB.out.size))
        clear hg
        go_wp2_with (at_builtin; go_loud (refine wpList_appI (t := 22) Try.underlying22 rfl _ _ rfl W.heap.size ((S.take k).filter st) y u5 rfl (HO.out.kept HG.out) _ rfl rfl HLEN.out HB2.out.size ?_))
        intro g' cap' w3 hO3 hB3
        have HO3 := Lib.hid (show OwnL w3 W.heap.size _ ((S.take (k + 1)).filter st) from HF.out ▸ hO3)
        have HB3 := Lib.hid (Below.trans2 HB2.out hB3)
        clear hO3 hB3
        go_wp2_with fail
        go_roundw
        case rel => exact ⟨k + 1, by omega, by go_num, HO3, HB3⟩
        case measure => simp [intOf]; omega
      | false =>
        have HF : Hid ((S.take (k + 1)).filter st = (S.take k).filter st) := Lib.hid (by rw [HT.out, List.filter_append]; simp [hok])
        clear hok
        go_wp2_with fail
        refine HC.out.mono ?_
        rintro e w2 ⟨rfl, hg⟩
        have HG := Lib.hid hg
        have HB2 := Lib.hid (Below.trans2 HB.out (Below.gb hg HB.out.size))
        clear hg
        go_wp2_with fail
        go_roundw
        case rel => exact ⟨k + 1, by omega, by go_num, Lib.hid (HF.out.symm ▸ HO.out.kept HG.out), HB2⟩
        case measure => simp [intOf]; omega
    · obtain rfl : k = n := by omega
      have hO := HO.out
      rw [List.take_of_length_le (by have := HN.out; omega)] at hO
      have hv : ∃ p' c', u5 = .slice p' (S.filter st).length c' := by
        rcases hO.2 with ⟨e1, e2⟩ | ⟨g, cap, cur, e1, _⟩
        · exact ⟨_, _, e1.trans (by rw [e2])⟩
        · exact ⟨_, _, e1⟩
      obtain ⟨p', c', rfl⟩ := hv
      obtain ⟨⟨p6, c6, he, hi1, hi2, hi3⟩, -⟩ := isL_of_row (S := S.filter st) hO
      injection he with e1 e2 e3; subst e1; subst e3
      have HI1 := Lib.hid hi1; have HI2 := Lib.hid hi2
      obtain ⟨hcb, hcf⟩ := cellb (bx (below_gb HB.out) HB1.out)
      obtain ⟨k1, k2, k3⟩ := set_ret (c := c') HB1.out (below_gb HB.out) hi3 HGW.out (by omega)
      have K1 := Lib.hid k1; have K2 := Lib.hid k2
      clear k1 k2 hO hi1 hi2 hi3 HO e2 hS
      generalize hul : (S.filter st).length = ul at *
      have HUL := Lib.hid hul
      clear hul
      go_wp2_with fail
      exact bodyPost_ret (v := .agg #[.slice p' ul c']) (by simp [results, Try.results52, go_sem, k3]) rfl ⟨S.filter st, p', ul, c', rfl, rfl, HASC.out.filter _, ⟨p', c', by rw [HUL.out], by rw [HUL.out]; exact HI1.out, HI2.out, K1.out⟩, K2.out⟩

end Go.Proofs.Ytceehihdihemmaa
