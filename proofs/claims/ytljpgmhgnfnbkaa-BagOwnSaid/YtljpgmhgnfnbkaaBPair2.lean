/- The document's Set over pairs. -/
import Derived.Test.YtljpgmhgnfnbkaaBPair1
namespace Go.Proofs.Ytljpgmhgnfnbkaa
open Go.RowKit Mx

theorem putL_low {a : List (Int × Int)} (b : List (Int × Int)) {k : Int} (v : Int) (h : ∀ p ∈ a, p.1 < k) : putL (a ++ b) k v = a ++ putL b k v := by
  induction a with
  | nil => rfl
  | cons p r ih =>
    have h1 := h p (by simp)
    rw [List.cons_append, putL, if_neg (by omega), if_neg (by omega), ih fun q hq => h q (by simp [hq]), List.cons_append]

theorem putL_high {a : List (Int × Int)} (b : List (Int × Int)) {k : Int} (v : Int) (h : ∃ p ∈ a, k ≤ p.1) : putL (a ++ b) k v = putL a k v ++ b := by
  induction a with
  | nil => obtain ⟨p, hp, -⟩ := h; simp at hp
  | cons p r ih =>
    rw [List.cons_append, putL, putL]
    by_cases c1 : k < p.1
    · rw [if_pos c1, if_pos c1]; rfl
    · rw [if_neg c1, if_neg c1]
      by_cases c2 : p.1 = k
      · rw [if_pos c2, if_pos c2]; rfl
      · rw [if_neg c2, if_neg c2, ih ?_]; rfl
        obtain ⟨y, hy, hk⟩ := h
        rcases List.mem_cons.1 hy with rfl | hy
        · omega
        · exact ⟨y, hy, hk⟩

theorem putL_len (l : List (Int × Int)) (k v : Int) : (putL l k v).length ≤ l.length + 1 := by
  induction l with
  | nil => simp [putL]
  | cons p r ih =>
    unfold putL
    split
    · simp
    · split <;> simp <;> omega

theorem takeP (l : List (Int × Int)) (j : Nat) (h : j < l.length) : l.take (j + 1) = l.take j ++ [l.getD j (0, 0)] := by
  rw [List.take_add_one]
  simp [List.getD, h]

/-- After j rounds of Set. -/
structure SI (l : List (Int × Int)) (k v : Int) (j : Nat) (O : List (Int × Int)) (d f : Bool) : Prop where
  no : d = false → O = l.take j ∧ ∀ p ∈ l.take j, p.1 < k
  yes : d = true → O = putL (l.take j) k v ∧ ∃ p ∈ l.take j, k ≤ p.1
  fresh : f = !hasL (l.take j) k

section
variable {l O : List (Int × Int)} {k v : Int} {j : Nat} {d f : Bool}
theorem SI.len (h : SI l k v j O d f) : O.length ≤ j + 1 := by
  have ht : (l.take j).length ≤ j := by simp; omega
  cases d with
  | false => rw [(h.no rfl).1]; omega
  | true => rw [(h.yes rfl).1]; have := putL_len (l.take j) k v; omega

theorem SI.start (l : List (Int × Int)) (k v : Int) : SI l k v 0 [] false true := ⟨fun _ => ⟨by simp, by simp⟩, fun h => (by cases h), by simp [hasL]⟩

theorem hasL_snoc (A : List (Int × Int)) (y : Int × Int) (k : Int) : hasL (A ++ [y]) k = (hasL A k || (y.1 == k)) := by simp [hasL]

theorem SI.eq (hr : Rising l) (hj : j < l.length) (he : (l.getD j (0, 0)).1 = k) (h : SI l k v j O d f) : SI l k v (j + 1) (O ++ [(k, v)]) true false := by
  have hlow : ∀ p ∈ l.take j, p.1 < k := by
    intro p hp
    have h2 : Rising (l.take (j + 1)) := List.Pairwise.sublist (List.take_sublist _ _) hr
    rw [takeP l j hj] at h2
    have := (List.pairwise_append.1 h2).2.2 p hp _ (by simp : l.getD j (0, 0) ∈ [l.getD j (0, 0)])
    omega
  cases d with
  | true =>
    obtain ⟨p, hp, hk⟩ := (h.yes rfl).2
    have := hlow p hp
    omega
  | false =>
    refine ⟨fun e => (by cases e), fun _ => ⟨?_, l.getD j (0, 0), by rw [takeP l j hj]; simp, by omega⟩, ?_⟩
    · rw [takeP l j hj, putL_low _ _ hlow, (h.no rfl).1, putL, if_neg (by omega), if_pos he]
    · rw [takeP l j hj, hasL_snoc, he]; simp

theorem SI.gt (hj : j < l.length) (he : k < (l.getD j (0, 0)).1) (h : SI l k v j O false f) : SI l k v (j + 1) (O ++ [(k, v)] ++ [l.getD j (0, 0)]) true f := by
  refine ⟨fun e => (by cases e), fun _ => ⟨?_, l.getD j (0, 0), by rw [takeP l j hj]; simp, by omega⟩, ?_⟩
  · rw [takeP l j hj, putL_low _ _ (h.no rfl).2, (h.no rfl).1, putL, if_pos he, List.append_assoc]; rfl
  · rw [takeP l j hj, hasL_snoc, h.fresh, beq_eq_false_iff_ne.2 (show (l.getD j (0, 0)).1 ≠ k by omega), Bool.or_false]

theorem SI.lt (hj : j < l.length) (he : (l.getD j (0, 0)).1 < k) (h : SI l k v j O false f) : SI l k v (j + 1) (O ++ [l.getD j (0, 0)]) false f := by
  refine ⟨fun _ => ⟨by rw [takeP l j hj, (h.no rfl).1], fun p hp => ?_⟩, fun e => (by cases e), ?_⟩
  · rw [takeP l j hj] at hp
    rcases List.mem_append.1 hp with hp | hp
    · exact (h.no rfl).2 p hp
    · simp at hp; subst hp; simpa [List.getD, hj] using he
  · rw [takeP l j hj, hasL_snoc, h.fresh, beq_eq_false_iff_ne.2 (show (l.getD j (0, 0)).1 ≠ k by omega), Bool.or_false]

theorem SI.tr (hj : j < l.length) (he : (l.getD j (0, 0)).1 ≠ k) (h : SI l k v j O true f) : SI l k v (j + 1) (O ++ [l.getD j (0, 0)]) true f := by
  obtain ⟨h1, p, hp, hk⟩ := h.yes rfl
  refine ⟨fun e => (by cases e), fun _ => ⟨?_, p, by rw [takeP l j hj]; exact List.mem_append_left _ hp, hk⟩, ?_⟩
  · rw [takeP l j hj, putL_high _ _ ⟨p, hp, hk⟩, h1]
  · rw [takeP l j hj, hasL_snoc, h.fresh, beq_eq_false_iff_ne.2 he, Bool.or_false]

theorem SI.stop (hj : j = l.length) (h : SI l k v j O d f) : (if d then O else O ++ [(k, v)]) = putL l k v ∧ f = !hasL l k := by
  have ht : l.take j = l := List.take_of_length_le (by omega)
  refine ⟨?_, by rw [h.fresh, ht]⟩
  cases d with
  | true => rw [if_pos rfl, (h.yes rfl).1, ht]
  | false =>
    obtain ⟨h1, h2⟩ := h.no rfl
    rw [ht] at h1 h2
    subst h1
    have := putL_low (a := O) [] v h2
    rw [List.append_nil] at this
    rw [this]; rfl
end

def RSetPost (l : List (Int × Int)) (k v : Int) (w : World) (e : Ending) (w' : World) : Prop :=
  ∃ p n c, e = .returned (.tuple #[.slice p n c, .bool (!hasL l k)]) ∧ OwnP w' w.heap.size (.slice p n c) (putL l k v) ∧ w.grownBy w' none

theorem OwnP.len {w : World} {base : Nat} {p : Option Addr} {n c : Nat} {l : List (Int × Int)} (h : OwnP w base (.slice p n c) l) : n = l.length := by
  obtain ⟨p', c', e, -⟩ := h.shape
  injection e

set_option maxRecDepth 100000 in
set_option maxHeartbeats 4000000 in
theorem RSet_c (p : Option Addr) (c : Nat) (l : List (Int × Int)) (k v : Int) (w : World) (hl : l.length ≤ 100000) (hr : Rising l) (h : PAt w p l) : Calls Try.prog 28 #[.slice p l.length c, .int .i64 k, .int .i64 v] w (RSetPost l k v w) := by
  obtain ⟨n, hn⟩ : ∃ n, l.length = n := ⟨_, rfl⟩
  have HN := Lib.hid hn; have HA := Lib.hid h; have HR := Lib.hid hr
  rw [hn] at hl ⊢
  clear hn h hr
  go_enter Try.func28, Try.ntmps28
  go_wp2_with fail
  go_loopw [8, 9, 10, 11] (fun sv dv fv i wr => ∃ (j : Nat) (O : List (Int × Int)) (d f : Bool), j ≤ n ∧ i = .int .i64 j ∧ dv = .bool d ∧ fv = .bool f ∧ Hid (SI l k v j O d f) ∧ Hid (OwnP wr w.heap.size sv O) ∧ Hid (Below w.heap.size w wr)) (fun _ _ _ i _ => n - (intOf i).toNat)
  case atStart => exact ⟨0, [], false, true, by omega, rfl, rfl, rfl, SI.start l k v, OwnP.nil w _, Below.refl _ _⟩
  case round =>
    obtain ⟨j, O, d, f, hj, rfl, rfl, rfl, HP, HO, HB⟩ := hrel
    have HLEN : Hid (O.length ≤ 100001) := Lib.hid (by have := HP.out.len; omega)
    by_cases hlt : j < n
    · have hne1 : l ≠ [] := fun e => by have := HN.out; rw [e] at this; simp at this; omega
      obtain ⟨g1, o1, rfl, hg1, hc1⟩ := HA.out.resolve_left hne1
      have HKL := Lib.hid (show j < l.length by have := HN.out; omega)
      have hc0 := hc1 j HKL.out
      have hc2 := (HB.out.cell (p := ⟨g1, o1 + j * 2 + 1, none⟩) hg1).trans hc0.2
      have hc1 := (HB.out.cell (p := ⟨g1, o1 + j * 2, none⟩) hg1).trans hc0.1
      have HG1 := Lib.hid hg1
      clear hne1 hg1 hc0
      obtain ⟨y, hy⟩ : ∃ y, l.getD j (0, 0) = y := ⟨_, rfl⟩
      have HY := Lib.hid hy
      rw [hy] at hc1 hc2
      clear hy
      obtain ⟨yk, yv⟩ := y
      simp only at hc1 hc2
      by_cases he : yk = k
      · subst he
        have HP2 := Lib.hid (HP.out.eq HR.out HKL.out (by rw [HY.out]))
        clear hc2
        go_wp2_with (at_builtin; go_loud (refine wpList_appP (t := 47) Try.underlying47 rfl _ _ rfl w.heap.size O yk v u8 rfl HO.out _ rfl rfl (by have := HLEN.out; omega) (HB.out.size) ?_))
        intro p2 n2 c2 w4 hn2 hO4 hB4
        have HO4 := Lib.hid hO4
        have HB4 := Lib.hid (Below.trans2 HB.out hB4)
        clear hO4 hB4 hc1 hn2
        go_wp2_with fail
        go_roundw
        case rel => exact ⟨j + 1, O ++ [(yk, v)], true, false, by omega, by go_num, rfl, rfl, HP2, Lib.hid (by simpa using HO4.out), HB4⟩
        case measure => simp [intOf]; omega
      · have d1 : (yk == k) = false := beq_eq_false_iff_ne.2 he
        have HNE := Lib.hid he
        clear he
        cases d with
        | false =>
          by_cases hgt : k < yk
          · have d2 : decide (k < yk) = true := decide_eq_true hgt
            have HP2 := Lib.hid (HP.out.gt HKL.out (by rw [HY.out]; exact hgt))
            rw [HY.out] at HP2
            clear hgt
            go_wp2_with (at_builtin; go_loud (refine wpList_appP (t := 47) Try.underlying47 rfl _ _ rfl w.heap.size O k v u8 rfl HO.out _ rfl rfl (by have := HLEN.out; omega) (HB.out.size) ?_))
            intro p2 n2 c2 w3 hn2 hO3 hB3
            have HO3 := Lib.hid hO3
            have hB3' := Below.trans2 HB.out hB3
            have HB3 := Lib.hid hB3'
            have hc1 := (hB3.cell (p := ⟨g1, o1 + j * 2, none⟩) HG1.out).trans hc1
            have hc2 := (hB3.cell (p := ⟨g1, o1 + j * 2 + 1, none⟩) HG1.out).trans hc2
            clear hO3 hB3 hB3' hn2
            go_wp2_with (at_builtin; go_loud (refine wpList_appP (t := 47) Try.underlying47 rfl _ _ rfl w.heap.size (O ++ [(k, v)]) yk yv (.slice p2 n2 c2) rfl HO3.out _ rfl rfl (by have := HLEN.out; simp; omega) (HB3.out.size) ?_))
            intro p4 n4 c4 w4 hn4 hO4 hB4
            have HO4 := Lib.hid hO4
            have HB4 := Lib.hid (Below.trans2 HB3.out hB4)
            clear hO4 hB4 hc1 hc2 hn4
            go_wp2_with fail
            go_roundw
            case rel => exact ⟨j + 1, O ++ [(k, v)] ++ [(yk, yv)], true, f, by omega, by go_num, rfl, rfl, HP2, Lib.hid (by simpa using HO4.out), HB4⟩
            case measure => simp [intOf]; omega
          · have d2 : decide (k < yk) = false := decide_eq_false hgt
            have HP2 := Lib.hid (HP.out.lt HKL.out (by have := HNE.out; rw [HY.out]; show yk < k; omega))
            rw [HY.out] at HP2
            clear hgt
            go_wp2_with (at_builtin; go_loud (refine wpList_appP (t := 47) Try.underlying47 rfl _ _ rfl w.heap.size O yk yv u8 rfl HO.out _ rfl rfl (by have := HLEN.out; omega) (HB.out.size) ?_))
            intro p4 n4 c4 w4 hn4 hO4 hB4
            have HO4 := Lib.hid hO4
            have HB4 := Lib.hid (Below.trans2 HB.out hB4)
            clear hO4 hB4 hc1 hc2 hn4
            go_wp2_with fail
            go_roundw
            case rel => exact ⟨j + 1, O ++ [(yk, yv)], false, f, by omega, by go_num, rfl, rfl, HP2, Lib.hid (by simpa using HO4.out), HB4⟩
            case measure => simp [intOf]; omega
        | true =>
          have HP2 := Lib.hid (HP.out.tr HKL.out (by rw [HY.out]; exact HNE.out))
          rw [HY.out] at HP2
          go_wp2_with (at_builtin; go_loud (refine wpList_appP (t := 47) Try.underlying47 rfl _ _ rfl w.heap.size O yk yv u8 rfl HO.out _ rfl rfl (by have := HLEN.out; omega) (HB.out.size) ?_))
          intro p4 n4 c4 w4 hn4 hO4 hB4
          have HO4 := Lib.hid hO4
          have HB4 := Lib.hid (Below.trans2 HB.out hB4)
          clear hO4 hB4 hc1 hc2 hn4
          go_wp2_with fail
          go_roundw
          case rel => exact ⟨j + 1, O ++ [(yk, yv)], true, f, by omega, by go_num, rfl, rfl, HP2, Lib.hid (by simpa using HO4.out), HB4⟩
          case measure => simp [intOf]; omega
    · obtain rfl : j = n := by omega
      have HE := Lib.hid (HP.out.stop HN.out.symm)
      cases d with
      | false =>
        go_wp2_with (at_builtin; go_loud (refine wpList_appP (t := 47) Try.underlying47 rfl _ _ rfl w.heap.size O k v u8 rfl HO.out _ rfl rfl (by have := HLEN.out; omega) (HB.out.size) ?_))
        intro p4 n4 c4 w4 hn4 hO4 hB4
        have HO4 := Lib.hid hO4
        have HB4 := Lib.hid (Below.trans2 HB.out hB4)
        clear hO4 hB4 hn4
        go_wp2_with fail
        go_ret2
        have e1 := HE.out.1
        simp only [Bool.false_eq_true, if_false] at e1
        exact ⟨p4, n4, c4, by rw [HE.out.2]; rfl, by rw [← e1]; exact HO4.out, below_gb HB4.out⟩
      | true =>
        obtain ⟨p4, c4, rfl, -⟩ := HO.out.shape
        go_wp2_with fail
        go_ret2
        have e1 := HE.out.1
        simp only [if_true] at e1
        exact ⟨p4, _, c4, by rw [HE.out.2]; rfl, by rw [← e1]; exact HO.out, below_gb HB.out⟩
end Go.Proofs.Ytljpgmhgnfnbkaa
