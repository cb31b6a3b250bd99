/- Lemmas. -/
import Derived.Test.YtddccnpohpaofaaGreatDoorP21
set_option linter.unusedVariables false
set_option linter.unusedSimpArgs false
namespace Go.Proofs.YtddccnpohpaofaaGreatDoor
open Go.RowKit

theorem ret_bp {p : Prop} {w w' : World} {b : Bool} (hg : w.grownBy w' none) (h : b = true ↔ p) : BoolOf p w (.returned (.bool b)) w' := ⟨hg, b, rfl, h⟩
theorem first_eq {α : Type} {l l' : List α} {m : Nat} (h1 : l.length = m) (h2 : l'.length = m) (h : ∀ i, i < m → l[i]? = l'[i]?) : l = l' := by
  refine List.ext_getElem? fun i => ?_
  rcases Nat.lt_or_ge i m with hi | hi
  · exact h i hi
  · rw [List.getElem?_eq_none (by omega), List.getElem?_eq_none (by omega)]
theorem bytes_ne {a b : List UInt8} (h : a ≠ b) : ((⟨a.toArray⟩ : ByteArray).toList == (⟨b.toArray⟩ : ByteArray).toList) = false := by
  rw [toList_data, toList_data]; exact beq_eq_false_iff_ne.2 h
theorem bytes_eq {a b : List UInt8} (h : a = b) : ((⟨a.toArray⟩ : ByteArray).toList == (⟨b.toArray⟩ : ByteArray).toList) = true := by rw [h]; exact beq_self_eq_true _

set_option maxRecDepth 100000 in
set_option maxHeartbeats 8000000 in
theorem eqToksI_c (T T' : List TokI) (hT : T.length ≤ 150000) (hT' : T'.length ≤ 150000) (p p' : Option Addr) (c c' : Nat) (w : World) (h : ToksAt w p T) (h' : ToksAt w p' T') :
    Calls Tryz.prog 79 #[.slice p T.length c, .slice p' T'.length c'] w (BoolOf (T = T') w) := by
  have HA := Lib.hid h; have HB := Lib.hid h'
  obtain ⟨m, hm⟩ : ∃ m, T.length = m := ⟨_, rfl⟩
  obtain ⟨m', hm'⟩ : ∃ m', T'.length = m' := ⟨_, rfl⟩
  have HM := Lib.hid hm; have HM' := Lib.hid hm'
  rw [hm] at hT ⊢
  rw [hm'] at hT' ⊢
  clear h h' hm hm'
  by_cases hmm : m = m'
  · subst hmm
    go_enter Tryz.func79, Tryz.ntmps79
    go_wp2_with fail
    go_loopw [13] (fun iv wr => ∃ j : Nat, j ≤ m ∧ iv = .int .i64 (j : Int) ∧ Hid (w.grownBy wr none) ∧ Hid (∀ i, i < j → T[i]? = T'[i]?)) (fun iv _ => m - (intOf iv).toNat)
    case atStart => exact ⟨0, Nat.zero_le _, rfl, gb_refl _ _, Lib.hid (fun i hi => by omega)⟩
    case round =>
      obtain ⟨j, hj, rfl, HG, HE⟩ := hrel
      by_cases hlt : j < m
      · obtain ⟨t, ht⟩ : ∃ t, T[j]? = some t := ⟨T[j]'(by rw [HM.out]; exact hlt), List.getElem?_eq_getElem _⟩
        obtain ⟨u, hu⟩ : ∃ u, T'[j]? = some u := ⟨T'[j]'(by rw [HM'.out]; exact hlt), List.getElem?_eq_getElem _⟩
        obtain ⟨g, off, rfl, hgl, t0, t1, t2, t3⟩ := tok_at (HA.out.kept HG.out) ht
        obtain ⟨g', off', rfl, hgl', u0, u1, u2, u3⟩ := tok_at (HB.out.kept HG.out) hu
        have y1 : (0 : Int) ≤ (j : Int) := by omega
        have y2 : (j : Int) < (m : Int) := by omega
        have y3 : decide (j < m) = true := decide_eq_true hlt
        have y4 : decide ((j : Int) < (m : Int)) = true := decide_eq_true y2
        have HTU : Hid (T[j]? = some t ∧ T'[j]? = some u) := Lib.hid ⟨ht, hu⟩
        have HNE : Hid (t ≠ u → ¬ T = T') := Lib.hid (fun hne e => by rw [e, hu] at ht; injection ht with ht; exact hne ht.symm)
        have HEQ : Hid (t = u → ∀ i, i < j + 1 → T[i]? = T'[i]?) := Lib.hid (fun e i hi => by
          rcases Nat.lt_or_ge i j with h1 | h1
          · exact HE.out i h1
          · obtain rfl : i = j := by omega
            rw [ht, hu, e])
        clear ht hu
        obtain ⟨tk, tl, tx, tp⟩ := t
        obtain ⟨uk, ul, ux, up⟩ := u
        unfold strV at t1 t2 u1 u2
        simp only at t0 t1 t2 t3 u0 u1 u2 u3
        by_cases k0 : tk = uk
        · have q0 : (tk == uk) = true := beq_iff_eq.2 k0
          by_cases k1 : tl = ul
          · have q1 := bytes_eq k1
            by_cases k2 : tx = ux
            · have q2 := bytes_eq k2
              by_cases k3 : tp = up
              · have q3 : (tp == up) = true := beq_iff_eq.2 k3
                have HJ := Lib.hid (HEQ.out (by rw [k0, k1, k2, k3]))
                clear k0 k1 k2 k3
                generalize (⟨tl.toArray⟩ : ByteArray) = le at *
                generalize (⟨tx.toArray⟩ : ByteArray) = te at *
                generalize (⟨ul.toArray⟩ : ByteArray) = le' at *
                generalize (⟨ux.toArray⟩ : ByteArray) = te' at *
                go_wp2_with fail
                go_quiet (fail)
                go_wp2_with fail
                go_roundw
                case rel => exact ⟨j + 1, by omega, by go_num, Lib.hid (gb_drewN HG.out _), HJ⟩
                case measure => simp [intOf]; omega
              · have q3 : (tp == up) = false := beq_eq_false_iff_ne.2 k3
                have HJ := Lib.hid (HNE.out (fun e => by injection e; contradiction))
                clear k0 k1 k2 k3
                generalize (⟨tl.toArray⟩ : ByteArray) = le at *
                generalize (⟨tx.toArray⟩ : ByteArray) = te at *
                generalize (⟨ul.toArray⟩ : ByteArray) = le' at *
                generalize (⟨ux.toArray⟩ : ByteArray) = te' at *
                go_wp2_with fail
                go_quiet (fail)
                go_wp2_with fail
                go_ret
                exact ret_false (gb_drewN HG.out _) HJ.out
            · have q2 := bytes_ne k2
              have HJ := Lib.hid (HNE.out (fun e => by injection e; contradiction))
              clear k0 k1 k2
              generalize (⟨tl.toArray⟩ : ByteArray) = le at *
              generalize (⟨tx.toArray⟩ : ByteArray) = te at *
              generalize (⟨ul.toArray⟩ : ByteArray) = le' at *
              generalize (⟨ux.toArray⟩ : ByteArray) = te' at *
              go_wp2_with fail
              go_quiet (fail)
              go_wp2_with fail
              go_ret
              exact ret_false (gb_drewN HG.out _) HJ.out
          · have q1 := bytes_ne k1
            have HJ := Lib.hid (HNE.out (fun e => by injection e; contradiction))
            clear k0 k1
            generalize (⟨tl.toArray⟩ : ByteArray) = le at *
            generalize (⟨tx.toArray⟩ : ByteArray) = te at *
            generalize (⟨ul.toArray⟩ : ByteArray) = le' at *
            generalize (⟨ux.toArray⟩ : ByteArray) = te' at *
            go_wp2_with fail
            go_quiet (fail)
            go_wp2_with fail
            go_ret
            exact ret_false (gb_drewN HG.out _) HJ.out
        · have q0 : (tk == uk) = false := beq_eq_false_iff_ne.2 k0
          have HJ := Lib.hid (HNE.out (fun e => by injection e; contradiction))
          clear k0
          generalize (⟨tl.toArray⟩ : ByteArray) = le at *
          generalize (⟨tx.toArray⟩ : ByteArray) = te at *
          generalize (⟨ul.toArray⟩ : ByteArray) = le' at *
          generalize (⟨ux.toArray⟩ : ByteArray) = te' at *
          go_wp2_with fail
          go_quiet (fail)
          go_wp2_with fail
          go_ret
          exact ret_false (gb_drewN HG.out _) HJ.out
      · obtain rfl : j = m := by omega
        go_wp2_with fail
        go_ret
        exact ret_bp HG.out ⟨fun _ => first_eq HM.out HM'.out HE.out, fun _ => rfl⟩
  · have d1 : ((m : Int) != (m' : Int)) = true := bne_iff_ne.2 (by omega)
    have d2 : (m != m') = true := bne_iff_ne.2 hmm
    have d3 : ((m : Int) == (m' : Int)) = false := beq_eq_false_iff_ne.2 (by omega)
    have d4 : (m == m') = false := beq_eq_false_iff_ne.2 hmm
    have HJ : Hid (¬ T = T') := Lib.hid (fun e => hmm (by rw [← HM.out, ← HM'.out, e]))
    clear hmm
    go_enter Tryz.func79, Tryz.ntmps79
    go_wp2_with fail
    go_ret
    exact ret_false (gb_refl _ _) HJ.out

set_option maxRecDepth 100000 in
set_option maxHeartbeats 8000000 in
theorem eqIntsI_c (l l' : List Int) (hl : l.length ≤ 150000) (hl' : l'.length ≤ 150000) (p p' : Option Addr) (c c' : Nat) (w : World) (h : VAt w p (intsV l)) (h' : VAt w p' (intsV l')) :
    Calls Tryz.prog 111 #[.slice p l.length c, .slice p' l'.length c'] w (BoolOf (l = l') w) := by
  have HA := Lib.hid h; have HB := Lib.hid h'
  obtain ⟨m, hm⟩ : ∃ m, l.length = m := ⟨_, rfl⟩
  obtain ⟨m', hm'⟩ : ∃ m', l'.length = m' := ⟨_, rfl⟩
  have HM := Lib.hid hm; have HM' := Lib.hid hm'
  rw [hm] at hl ⊢
  rw [hm'] at hl' ⊢
  clear h h' hm hm'
  by_cases hmm : m = m'
  · subst hmm
    go_enter Tryz.func111, Tryz.ntmps111
    go_wp2_with fail
    go_loopw [13] (fun iv wr => ∃ j : Nat, j ≤ m ∧ iv = .int .i64 (j : Int) ∧ Hid (w.grownBy wr none) ∧ Hid (∀ i, i < j → l[i]? = l'[i]?)) (fun iv _ => m - (intOf iv).toNat)
    case atStart => exact ⟨0, Nat.zero_le _, rfl, gb_refl _ _, Lib.hid (fun i hi => by omega)⟩
    case round =>
      obtain ⟨j, hj, rfl, HG, HE⟩ := hrel
      by_cases hlt : j < m
      · obtain ⟨x, hx⟩ : ∃ x, l[j]? = some x := ⟨l[j]'(by rw [HM.out]; exact hlt), List.getElem?_eq_getElem _⟩
        obtain ⟨y, hy⟩ : ∃ y, l'[j]? = some y := ⟨l'[j]'(by rw [HM'.out]; exact hlt), List.getElem?_eq_getElem _⟩
        obtain ⟨g, off, rfl, hgl, t0⟩ := kid_at (HA.out.kept HG.out) hx
        obtain ⟨g', off', rfl, hgl', u0⟩ := kid_at (HB.out.kept HG.out) hy
        have y1 : (0 : Int) ≤ (j : Int) := by omega
        have y2 : (j : Int) < (m : Int) := by omega
        have y3 : decide (j < m) = true := decide_eq_true hlt
        have y4 : decide ((j : Int) < (m : Int)) = true := decide_eq_true y2
        by_cases k0 : x = y
        · have q0 : (x == y) = true := beq_iff_eq.2 k0
          have q1 : (x != y) = false := by rw [bne, q0]; rfl
          have HJ : Hid (∀ i, i < j + 1 → l[i]? = l'[i]?) := Lib.hid (fun i hi => by
            rcases Nat.lt_or_ge i j with h1 | h1
            · exact HE.out i h1
            · obtain rfl : i = j := by omega
              rw [hx, hy, k0])
          clear k0 hx hy
          go_wp2_with fail
          go_quiet (fail)
          go_wp2_with fail
          go_roundw
          case rel => exact ⟨j + 1, by omega, by go_num, Lib.hid (gb_drewN HG.out _), HJ⟩
          case measure => simp [intOf]; omega
        · have q0 : (x == y) = false := beq_eq_false_iff_ne.2 k0
          have q1 : (x != y) = true := bne_iff_ne.2 k0
          have HJ : Hid (¬ l = l') := Lib.hid (fun e => by rw [e, hy] at hx; injection hx with hx; exact k0 hx.symm)
          clear k0 hx hy
          go_wp2_with fail
          go_quiet (fail)
          go_wp2_with fail
          go_ret
          exact ret_false (gb_drewN HG.out _) HJ.out
      · obtain rfl : j = m := by omega
        go_wp2_with fail
        go_ret
        exact ret_bp HG.out ⟨fun _ => first_eq HM.out HM'.out HE.out, fun _ => rfl⟩
  · have d1 : ((m : Int) != (m' : Int)) = true := bne_iff_ne.2 (by omega)
    have d2 : (m != m') = true := bne_iff_ne.2 hmm
    have d3 : ((m : Int) == (m' : Int)) = false := beq_eq_false_iff_ne.2 (by omega)
    have d4 : (m == m') = false := beq_eq_false_iff_ne.2 hmm
    have HJ : Hid (¬ l = l') := Lib.hid (fun e => hmm (by rw [← HM.out, ← HM'.out, e]))
    clear hmm
    go_enter Tryz.func111, Tryz.ntmps111
    go_wp2_with fail
    go_ret
    exact ret_false (gb_refl _ _) HJ.out

set_option maxRecDepth 100000 in
set_option maxHeartbeats 8000000 in
theorem sameNodeI_c (k t k' t' : Int) (l l' : List Int) (hl : l.length ≤ 150000) (hl' : l'.length ≤ 150000) (p p' : Option Addr) (c c' : Nat) (w : World) (h : VAt w p (intsV l)) (h' : VAt w p' (intsV l')) :
    Calls Tryz.prog 81 #[.agg #[.int .i64 k, .int .i64 t, .slice p l.length c], .agg #[.int .i64 k', .int .i64 t', .slice p' l'.length c']] w (BoolOf (k = k' ∧ t = t' ∧ l = l') w) := by
  have HE := Lib.hid (fun W h1 h2 => eqIntsI_c l l' hl hl' p p' c c' W h1 h2)
  have HA := Lib.hid h; have HB := Lib.hid h'
  generalize l.length = m at *
  generalize l'.length = m' at *
  clear h h' hl hl'
  by_cases k0 : k = k'
  · have q0 : (k == k') = true := beq_iff_eq.2 k0
    by_cases k1 : t = t'
    · have q1 : (t == t') = true := beq_iff_eq.2 k1
      have HK : Hid (k = k' ∧ t = t') := Lib.hid ⟨k0, k1⟩
      clear k0 k1
      go_enter Tryz.func81, Tryz.ntmps81
      go_wp2_with fail
      refine (HE.out _ (HA.out.kept (gb_alloc (gb_alloc (gb_refl _ _) _) _)) (HB.out.kept (gb_alloc (gb_alloc (gb_refl _ _) _) _))).mono ?_
      rintro e w1 ⟨hg1, b, rfl, hb⟩
      have HG1 := Lib.hid (gb_trans (gb_alloc (gb_alloc (gb_refl w _) _) _) hg1)
      have HBB := Lib.hid hb
      clear hg1 HE hb
      go_wp2_with fail
      go_ret
      exact ret_bp HG1.out ⟨fun h => ⟨HK.out.1, HK.out.2, HBB.out.1 h⟩, fun h => HBB.out.2 h.2.2⟩
    · have q1 : (t == t') = false := beq_eq_false_iff_ne.2 k1
      have HK : Hid (¬ (k = k' ∧ t = t' ∧ l = l')) := Lib.hid (fun h => k1 h.2.1)
      clear k0 k1
      go_enter Tryz.func81, Tryz.ntmps81
      go_wp2_with fail
      go_ret
      exact ret_false (gb_alloc (gb_alloc (gb_refl _ _) _) _) HK.out
  · have q0 : (k == k') = false := beq_eq_false_iff_ne.2 k0
    have HK : Hid (¬ (k = k' ∧ t = t' ∧ l = l')) := Lib.hid (fun h => k0 h.1)
    clear k0
    go_enter Tryz.func81, Tryz.ntmps81
    go_wp2_with fail
    go_ret
    exact ret_false (gb_alloc (gb_alloc (gb_refl _ _) _) _) HK.out

theorem nd_eq {x y : Nd} (h : x.kind = y.kind ∧ x.tok = y.tok ∧ x.kids = y.kids) : x = y := by
  obtain ⟨a, b, c⟩ := x; obtain ⟨a', b', c'⟩ := y
  simp only at h
  obtain ⟨rfl, rfl, rfl⟩ := h; rfl

set_option maxRecDepth 100000 in
set_option maxHeartbeats 16000000 in
theorem eqNodesI_c (N N' : List Nd) (K K' : Kf) (hN : N.length ≤ 150000) (hN' : N'.length ≤ 150000) (hk : ∀ (i : Nat) (x : Nd), N[i]? = some x → x.kids.length ≤ 150000) (hk' : ∀ (i : Nat) (x : Nd), N'[i]? = some x → x.kids.length ≤ 150000) (p p' : Option Addr) (c c' : Nat) (w : World) (h : NodesAt w p N K) (h' : NodesAt w p' N' K') :
    Calls Tryz.prog 80 #[.slice p N.length c, .slice p' N'.length c', .func (.func 81) #[] #[]] w (BoolOf (N = N') w) := by
  have HA := Lib.hid h; have HB := Lib.hid h'; have HK := Lib.hid hk; have HK' := Lib.hid hk'
  obtain ⟨m, hm⟩ : ∃ m, N.length = m := ⟨_, rfl⟩
  obtain ⟨m', hm'⟩ : ∃ m', N'.length = m' := ⟨_, rfl⟩
  have HM := Lib.hid hm; have HM' := Lib.hid hm'
  rw [hm] at hN ⊢
  rw [hm'] at hN' ⊢
  clear h h' hm hm' hk hk'
  by_cases hmm : m = m'
  · subst hmm
    go_enter Tryz.func80, Tryz.ntmps80
    go_wp2_with fail
    go_loopw [17] (fun iv wr => ∃ j : Nat, j ≤ m ∧ iv = .int .i64 (j : Int) ∧ Hid (w.grownBy wr none) ∧ Hid (∀ i, i < j → N[i]? = N'[i]?)) (fun iv _ => m - (intOf iv).toNat)
    case atStart => exact ⟨0, Nat.zero_le _, rfl, gb_refl _ _, Lib.hid (fun i hi => by omega)⟩
    case round =>
      obtain ⟨j, hj, rfl, HG, HE⟩ := hrel
      by_cases hlt : j < m
      · obtain ⟨x, hx⟩ : ∃ x, N[j]? = some x := ⟨N[j]'(by rw [HM.out]; exact hlt), List.getElem?_eq_getElem _⟩
        obtain ⟨y, hy⟩ : ∃ y, N'[j]? = some y := ⟨N'[j]'(by rw [HM'.out]; exact hlt), List.getElem?_eq_getElem _⟩
        have HAr := Lib.hid (HA.out.kept HG.out); have HBr := Lib.hid (HB.out.kept HG.out)
        obtain ⟨g, off, rfl, hgl, t0, t1, t2⟩ := node_at HAr.out hx
        obtain ⟨g', off', rfl, hgl', u0, u1, u2⟩ := node_at HBr.out hy
        have y1 : (0 : Int) ≤ (j : Int) := by omega
        have y2 : (j : Int) < (m : Int) := by omega
        have y3 : decide (j < m) = true := decide_eq_true hlt
        have y4 : decide ((j : Int) < (m : Int)) = true := decide_eq_true y2
        have HS := Lib.hid (fun W h1 h2 => sameNodeI_c x.kind x.tok y.kind y.tok x.kids y.kids (HK.out j x hx) (HK'.out j y hy) (K j).1 (K' j).1 (K j).2 (K' j).2 W h1 h2)
        have HV := Lib.hid (HAr.out.2 j x hx); have HV' := Lib.hid (HBr.out.2 j y hy)
        obtain ⟨P, hP⟩ : ∃ P : Prop, (x.kind = y.kind ∧ x.tok = y.tok ∧ x.kids = y.kids) = P := ⟨_, rfl⟩
        have HNE : Hid (¬ P → ¬ N = N') := Lib.hid (fun hne e => hne (by rw [e, hy] at hx; injection hx with hx; rw [← hP, hx]; exact ⟨rfl, rfl, rfl⟩))
        have HEQ : Hid (P → ∀ i, i < j + 1 → N[i]? = N'[i]?) := Lib.hid (fun e i hi => by
          rcases Nat.lt_or_ge i j with h1 | h1
          · exact HE.out i h1
          · obtain rfl : i = j := by omega
            rw [hx, hy, nd_eq (x := x) (y := y) (by rw [hP]; exact e)])
        rw [hP] at HS
        clear hx hy hP
        generalize (K j).1 = pk at *
        generalize (K j).2 = ck at *
        generalize (K' j).1 = pk' at *
        generalize (K' j).2 = ck' at *
        generalize x.kids.length = kl at *
        generalize y.kids.length = kl' at *
        generalize x.kind = xk at *
        generalize x.tok = xt at *
        generalize y.kind = yk at *
        generalize y.tok = yt at *
        have v0 := (World.grownBy_alloc wr (.cells #[.int .i64 xk, .int .i64 xt, .slice pk kl ck] 110) none).cell u0 (by simp)
        have v1 := (World.grownBy_alloc wr (.cells #[.int .i64 xk, .int .i64 xt, .slice pk kl ck] 110) none).cell u1 (by simp)
        have v2 := (World.grownBy_alloc wr (.cells #[.int .i64 xk, .int .i64 xt, .slice pk kl ck] 110) none).cell u2 (by simp)
        go_wp2_with fail
        refine (HS.out _ (HV.out.kept (gb_alloc (gb_alloc (gb_refl _ _) _) _)) (HV'.out.kept (gb_alloc (gb_alloc (gb_refl _ _) _) _))).mono ?_
        rintro e w1 ⟨hg1, b, rfl, hb⟩
        have HG1 := Lib.hid (gb_trans HG.out (gb_trans (gb_alloc (gb_alloc (gb_refl wr _) _) _) hg1))
        have HBB := Lib.hid hb
        clear hg1 HS hb
        cases b
        · go_wp2_with fail
          go_ret
          exact ret_false HG1.out (HNE.out (fun h => by have := HBB.out.2 h; cases this))
        · go_wp2_with fail
          go_roundw
          case rel => exact ⟨j + 1, by omega, by go_num, HG1, Lib.hid (HEQ.out (HBB.out.1 (by simp)))⟩
          case measure => simp [intOf]; omega
      · obtain rfl : j = m := by omega
        go_wp2_with fail
        go_ret
        exact ret_bp HG.out ⟨fun _ => first_eq HM.out HM'.out HE.out, fun _ => rfl⟩
  · have d1 : ((m : Int) != (m' : Int)) = true := bne_iff_ne.2 (by omega)
    have d2 : (m != m') = true := bne_iff_ne.2 hmm
    have d3 : ((m : Int) == (m' : Int)) = false := beq_eq_false_iff_ne.2 (by omega)
    have d4 : (m == m') = false := beq_eq_false_iff_ne.2 hmm
    have HJ : Hid (¬ N = N') := Lib.hid (fun e => hmm (by rw [← HM.out, ← HM'.out, e]))
    clear hmm
    go_enter Tryz.func80, Tryz.ntmps80
    go_wp2_with fail
    go_ret
    exact ret_false (gb_refl _ _) HJ.out

set_option maxRecDepth 100000 in
set_option maxHeartbeats 8000000 in
theorem sameTreeI_c (T T' : List TokI) (N N' : List Nd) (K K' : Kf) (hT : T.length ≤ 150000) (hT' : T'.length ≤ 150000) (hN : N.length ≤ 150000) (hN' : N'.length ≤ 150000) (hk : ∀ (i : Nat) (x : Nd), N[i]? = some x → x.kids.length ≤ 150000) (hk' : ∀ (i : Nat) (x : Nd), N'[i]? = some x → x.kids.length ≤ 150000) (pt pt' pn pn' : Option Addr) (ct ct' cn cn' : Nat) (w : World) (ht : ToksAt w pt T) (ht' : ToksAt w pt' T') (h : NodesAt w pn N K) (h' : NodesAt w pn' N' K') :
    Calls Tryz.prog 47 #[.agg #[.slice pt T.length ct, .slice pn N.length cn], .agg #[.slice pt' T'.length ct', .slice pn' N'.length cn']] w (BoolOf (T = T' ∧ N = N') w) := by
  have HE := Lib.hid (fun W h1 h2 => eqToksI_c T T' hT hT' pt pt' ct ct' W h1 h2)
  have HF := Lib.hid (fun W h1 h2 => eqNodesI_c N N' K K' hN hN' hk hk' pn pn' cn cn' W h1 h2)
  have HA := Lib.hid ht; have HB := Lib.hid ht'; have HC := Lib.hid h; have HD := Lib.hid h'
  generalize T.length = m at *
  generalize N.length = M at *
  generalize T'.length = m' at *
  generalize N'.length = M' at *
  clear h h' ht ht' hk hk'
  have HGW : Hid (w.grownBy ((w.alloc (.cells #[.slice pt m ct, .slice pn M cn] 42)).alloc (.cells #[.slice pt' m' ct', .slice pn' M' cn'] 42)) none) := Lib.hid (gb_alloc (gb_alloc (gb_refl _ _) _) _)
  go_enter Tryz.func47, Tryz.ntmps47
  go_wp2_with fail
  refine (HE.out _ (HA.out.kept HGW.out) (HB.out.kept HGW.out)).mono ?_
  rintro e w1 ⟨hg1, b, rfl, hb⟩
  have HG1 := Lib.hid (gb_trans HGW.out hg1)
  obtain ⟨W0, b0, b1, hW, e0, e1, hB0, hB1, -, -⟩ := two w (.cells #[.slice pt m ct, .slice pn M cn] 42) (.cells #[.slice pt' m' ct', .slice pn' M' cn'] 42)
  rw [← hW] at hg1
  obtain ⟨a0, a1, a2⟩ := cells2 (bx hg1 hB0)
  obtain ⟨c0, c1, c2⟩ := cells2 (bx hg1 hB1)
  rw [← e0] at a0 a1 a2
  rw [← e1] at c0 c1 c2
  have HBB := Lib.hid hb
  clear hg1 HE hB0 hB1 hW e0 e1 hb
  cases b
  · go_wp2_with fail
    go_ret
    exact ret_false HG1.out (fun h => by have := HBB.out.2 h.1; cases this)
  · go_wp2_with fail
    refine (HF.out _ (HC.out.kept HG1.out) (HD.out.kept HG1.out)).mono ?_
    rintro e w2 ⟨hg2, b, rfl, hb⟩
    have HG2 := Lib.hid (gb_trans HG1.out hg2)
    have HB2 := Lib.hid hb
    clear hg2 HF hb
    go_wp2_with fail
    go_ret
    exact ret_bp HG2.out ⟨fun h => ⟨HBB.out.1 (by simp), HB2.out.1 h⟩, fun h => HB2.out.2 h.2⟩
end Go.Proofs.YtddccnpohpaofaaGreatDoor
