/- The document's rising lists: put, of. -/
import Derived.Test.YtljpgmhgnfnbkaaBRef2
namespace Go.Proofs.Ytljpgmhgnfnbkaa
open Go.RowKit Go.Sort

theorem asc_get {l : List Int} (h : Asc l) {i j : Nat} (hij : i < j) (hj : j < l.length) : l.getD i 0 < l.getD j 0 := by
  have := List.pairwise_iff_getElem.1 h i j (by omega) hj hij
  simpa [List.getD, hj, show i < l.length by omega] using this

theorem mem_take {l : List Int} {k : Nat} {y : Int} (h : y ∈ l.take k) : ∃ j, j < k ∧ j < l.length ∧ l.getD j 0 = y := by
  obtain ⟨j, hj, e⟩ := List.mem_iff_getElem.1 h
  simp at hj
  exact ⟨j, by omega, by omega, by simp at e; simp [List.getD, show j < l.length by omega, e]⟩

/-- What lies behind k elements. -/
structure PutI (l : List Int) (x : Int) (k : Nat) (O : List Int) (d : Bool) : Prop where
  asc : Asc O
  mem : ∀ y, y ∈ O ↔ y ∈ l.take k ∨ (d = true ∧ y = x)
  low : d = false → ∀ y, y ∈ l.take k → y < x
  high : d = true → ∀ j, k ≤ j → j < l.length → x < l.getD j 0
  no : x ∉ l.take k
  len : O.length ≤ k + 1

theorem PutI.start (l : List Int) (x : Int) : PutI l x 0 [] false := ⟨by simp [Asc], by simp, by simp, by simp, by simp, by simp⟩

theorem PutI.a {l : List Int} {x : Int} {k : Nat} {O : List Int} (h : PutI l x k O false) (hl : Asc l) (hx : x < l.getD k 0) (hlen : O.length ≤ k) : PutI l x k (O ++ [x]) true := by
  refine ⟨List.pairwise_append.2 ⟨h.asc, by simp, fun a ha b hb => ?_⟩, fun y => ?_, fun e => ?_, fun _ j hj hjl => ?_, h.no, by simp; omega⟩
  · simp at hb; subst hb
    rcases (h.mem a).1 ha with h1 | ⟨h1, -⟩
    · exact h.low rfl a h1
    · cases h1
  · rw [List.mem_append, h.mem]; simp
  · cases e
  · rcases Nat.eq_or_lt_of_le hj with e | e
    · subst e; exact hx
    · have := asc_get hl e hjl; omega

theorem PutI.b {l : List Int} {x : Int} {k : Nat} {O : List Int} {d : Bool} (h : PutI l x k O d) (hl : Asc l) (hk : k < l.length) (hx : d = true ∨ l.getD k 0 < x) (hne : l.getD k 0 ≠ x) (hlen : O.length + 1 ≤ k + 2) : PutI l x (k + 1) (O ++ [l.getD k 0]) d := by
  obtain ⟨ht, -⟩ := take_more hk
  refine ⟨List.pairwise_append.2 ⟨h.asc, by simp, fun a ha b hb => ?_⟩, fun y => ?_, fun e y hy => ?_, fun e j hj hjl => h.high e j (by omega) hjl, ?_, by simp; omega⟩
  · simp only [List.mem_singleton] at hb; subst hb
    rcases (h.mem a).1 ha with h1 | ⟨h1, rfl⟩
    · obtain ⟨j, hj, hjl, rfl⟩ := mem_take h1
      exact asc_get hl hj hk
    · exact h.high h1 k (Nat.le_refl _) hk
  · rw [List.mem_append, h.mem, ht, List.mem_append, List.mem_singleton]
    constructor
    · rintro ((h1 | h1) | h1)
      · exact .inl (.inl h1)
      · exact .inr h1
      · exact .inl (.inr h1)
    · rintro ((h1 | h1) | h1)
      · exact .inl (.inl h1)
      · exact .inr h1
      · exact .inl (.inr h1)
  · rw [ht, List.mem_append, List.mem_singleton] at hy
    rcases hy with h1 | h1
    · exact h.low e y h1
    · subst h1
      rcases hx with h2 | h2
      · rw [e] at h2; cases h2
      · exact h2
  · rw [ht, List.mem_append, List.mem_singleton]
    rintro (h1 | h1)
    · exact h.no h1
    · exact hne h1.symm

def PutPost (l : List Int) (x : Int) (w : World) (e : Ending) (w' : World) : Prop :=
  ∃ S p n c, e = .returned (.tuple #[.slice p n c, .bool (decide (x ∉ l))]) ∧ Asc S ∧ (∀ y, y ∈ S ↔ y = x ∨ y ∈ l) ∧ IsL w' (.slice p n c) S ∧ S.length ≤ l.length + 1 ∧ w.grownBy w' none

set_option maxRecDepth 100000 in
set_option maxHeartbeats 4000000 in
theorem RPut_c (p : Option Addr) (c : Nat) (l : List Int) (x : Int) (w : World) (hl : l.length ≤ 100000) (hlc : l.length ≤ c) (hcm : c ≤ maxLen) (ha : Asc l) (h : LAt w p l) : Calls Try.prog 48 #[.slice p l.length c, .int .i64 x] w (PutPost l x w) := by
  obtain ⟨n, hn⟩ : ∃ n, l.length = n := ⟨_, rfl⟩
  have HN := Lib.hid hn; have HA := Lib.hid h; have HASC := Lib.hid ha; have HLC := Lib.hid hlc; have HCM := Lib.hid hcm
  rw [hn] at hl ⊢
  clear hn h ha hlc hcm
  go_enter Try.func48, Try.ntmps48
  go_wp2_with fail
  go_loopw [6, 7, 8] (fun v dv i wr => ∃ (k : Nat) (O : List Int) (d : Bool), k ≤ n ∧ i = .int .i64 k ∧ dv = .bool d ∧ Hid (PutI l x k O d) ∧ Hid (d = false → O.length ≤ k) ∧ Hid (OwnL wr w.heap.size v O) ∧ Hid (Below w.heap.size w wr)) (fun _ _ i _ => n - (intOf i).toNat)
  case atStart => exact ⟨0, [], false, by omega, rfl, rfl, PutI.start l x, Lib.hid (by simp), OwnL.nil w _, Below.refl _ _⟩
  case round =>
    obtain ⟨k, O, d, hk, rfl, rfl, HP, HD, HO, HB⟩ := hrel
    by_cases hlt : k < n
    · have hne1 : l ≠ [] := fun e => by have := HN.out; rw [e] at this; simp at this; omega
      obtain ⟨g1, o1, rfl, hg1, hc1⟩ := HA.out.resolve_left hne1
      have hck := (HB.out.cell (p := ⟨g1, o1 + k, none⟩) hg1).trans (hc1 k (by have := HN.out; omega))
      have HKL := Lib.hid (show k < l.length by have := HN.out; omega)
      have HLEN : Hid (O.length ≤ 999999) := Lib.hid (by have := HP.out.len; omega)
      have HG1 := Lib.hid hg1
      have HTM := Lib.hid (take_more HKL.out).2
      have HA2 := Lib.hid (fun (hlt2 : l.getD k 0 > x) (hd : d = false) => HP.out)
      clear hc1 hne1 hg1
      obtain ⟨y, hy⟩ : ∃ y, l.getD k 0 = y := ⟨_, rfl⟩
      have HY := Lib.hid hy
      rw [hy] at hck HTM
      clear hy
      by_cases he : y = x
      · subst he
        have HM : Hid (decide (y ∉ l) = false) := Lib.hid (decide_eq_false fun h => h HTM.out)
        go_wp2_with fail
        go_ret2
        exact ⟨l, _, _, _, by rw [HM.out]; rfl, HASC.out, fun z => ⟨fun h => .inr h, fun h => by rcases h with rfl | h; exact HTM.out; exact h⟩, ⟨_, _, by rw [HN.out], by have := HLC.out; omega, HCM.out, HA.out.low HB.out (fun _ a ha => by injection ha with ha; subst ha; exact HG1.out)⟩, by omega, below_gb HB.out⟩
      · have d1 : (y == x) = false := beq_eq_false_iff_ne.2 he
        have HNE := Lib.hid he
        clear he
        cases d with
        | false =>
          by_cases hgt : x < y
          · have d2 : decide (x < y) = true := decide_eq_true hgt
            have HP1 := Lib.hid (HP.out.a HASC.out (by rw [HY.out]; exact hgt) (HD.out rfl))
            have HL1 : Hid ((O ++ [x]).length ≤ 1000000) := Lib.hid (by have := HLEN.out; simp; omega)
            have HP2 := Lib.hid (HP1.out.b HASC.out HKL.out (.inl rfl) (by rw [HY.out]; exact HNE.out) (by have := HD.out rfl; simp; omega))
            clear hgt
            go_wp2_with (at_builtin; go_loud (refine wpList_appI (t := 22) Try.underlying22 rfl _ _ rfl w.heap.size O x u6 rfl HO.out _ rfl rfl (by have := HLEN.out; omega) (HB.out.size) ?_))
            intro g' cap' w3 hO3 hB3
            have HO3 := Lib.hid hO3
            have hB3' := Below.trans2 HB.out hB3
            have HB3 := Lib.hid hB3'
            have hck := (hB3.cell (p := ⟨g1, o1 + k, none⟩) HG1.out).trans hck
            clear hO3 hB3 hB3'
            go_wp2_with (at_builtin; go_loud (refine wpList_appI (t := 22) Try.underlying22 rfl _ _ rfl w.heap.size (O ++ [x]) y (.slice (some ⟨g', 0, none⟩) (O.length + 1) cap') rfl HO3.out _ rfl rfl HL1.out (HB3.out.size) ?_))
            intro g2 cap2 w4 hO4 hB4
            have HO4 := Lib.hid hO4
            have HB4 := Lib.hid (Below.trans2 HB3.out hB4)
            clear hO4 hB4 hck
            go_wp2_with fail
            go_roundw
            case rel => exact ⟨k + 1, O ++ [x] ++ [y], true, by omega, by go_num, rfl, Lib.hid (by have := HP2.out; rwa [HY.out] at this), Lib.hid (fun e => by cases e), Lib.hid (by simpa using HO4.out), HB4⟩
            case measure => simp [intOf]; omega
          · have d2 : decide (x < y) = false := decide_eq_false hgt
            have HP2 := Lib.hid (HP.out.b HASC.out HKL.out (.inr (by have := HNE.out; rw [HY.out]; omega)) (by rw [HY.out]; exact HNE.out) (by have := HD.out rfl; omega))
            clear hgt
            go_wp2_with (at_builtin; go_loud (refine wpList_appI (t := 22) Try.underlying22 rfl _ _ rfl w.heap.size O y u6 rfl HO.out _ rfl rfl (by have := HLEN.out; omega) (HB.out.size) ?_))
            intro g2 cap2 w4 hO4 hB4
            have HO4 := Lib.hid hO4
            have HB4 := Lib.hid (Below.trans2 HB.out hB4)
            clear hO4 hB4 hck
            go_wp2_with fail
            go_roundw
            case rel => exact ⟨k + 1, O ++ [y], false, by omega, by go_num, rfl, Lib.hid (by have := HP2.out; rwa [HY.out] at this), Lib.hid (fun _ => by have := HD.out trivial; simp; omega), HO4, HB4⟩
            case measure => simp [intOf]; omega
        | true =>
          have HP2 := Lib.hid (HP.out.b HASC.out HKL.out (.inl rfl) (by rw [HY.out]; exact HNE.out) (by have := HP.out.len; omega))
          go_wp2_with (at_builtin; go_loud (refine wpList_appI (t := 22) Try.underlying22 rfl _ _ rfl w.heap.size O y u6 rfl HO.out _ rfl rfl (by have := HLEN.out; omega) (HB.out.size) ?_))
          intro g2 cap2 w4 hO4 hB4
          have HO4 := Lib.hid hO4
          have HB4 := Lib.hid (Below.trans2 HB.out hB4)
          clear hO4 hB4 hck
          go_wp2_with fail
          go_roundw
          case rel => exact ⟨k + 1, O ++ [y], true, by omega, by go_num, rfl, Lib.hid (by have := HP2.out; rwa [HY.out] at this), Lib.hid (fun e => by cases e), HO4, HB4⟩
          case measure => simp [intOf]; omega
    · obtain rfl : k = n := by omega
      have htk : l.take k = l := List.take_of_length_le (by have := HN.out; omega)
      have HTK := Lib.hid htk
      have HM : Hid (decide (x ∉ l) = true) := Lib.hid (decide_eq_true (by have := HP.out.no; rwa [HTK.out] at this))
      clear htk
      cases d with
      | false =>
        have HLEN : Hid (O.length ≤ 999999) := Lib.hid (by have := HP.out.len; omega)
        go_wp2_with (at_builtin; go_loud (refine wpList_appI (t := 22) Try.underlying22 rfl _ _ rfl w.heap.size O x u6 rfl HO.out _ rfl rfl (by have := HLEN.out; omega) (HB.out.size) ?_))
        intro g2 cap2 w4 hO4 hB4
        have HF := Lib.hid (isL_of_row (S := O ++ [x]) (by simpa [OwnL] using hO4)).1
        have HB4 := Lib.hid (Below.trans2 HB.out hB4)
        clear hO4 hB4
        go_wp2_with fail
        go_ret2
        refine ⟨O ++ [x], _, _, _, by rw [HM.out]; rfl, List.pairwise_append.2 ⟨HP.out.asc, by simp, fun a ha b hb => ?_⟩, fun y => ?_, HF.out, by have := HD.out trivial; simp; rw [HN.out]; omega, below_gb HB4.out⟩
        · simp at hb; subst hb
          rcases (HP.out.mem a).1 ha with h1 | ⟨h1, -⟩
          · exact HP.out.low rfl a h1
          · cases h1
        · rw [List.mem_append, HP.out.mem, HTK.out]
          simp
          exact Or.comm
      | true =>
        have hv : ∃ p' c', u6 = .slice p' O.length c' := by
          rcases HO.out.2 with ⟨e1, e2⟩ | ⟨g, cap, cur, e1, _⟩
          · exact ⟨_, _, e1.trans (by rw [e2])⟩
          · exact ⟨_, _, e1⟩
        obtain ⟨p', c', rfl⟩ := hv
        have HF := Lib.hid (isL_of_row (S := O) HO.out).1
        generalize hOl : O.length = m at *
        have HOL := Lib.hid hOl
        clear hOl
        go_wp2_with fail
        go_ret2
        refine ⟨O, _, _, _, by rw [HM.out]; rfl, HP.out.asc, fun y => ?_, HF.out, by have := HP.out.len; rw [HN.out]; omega, below_gb HB.out⟩
        rw [HP.out.mem, HTK.out]
        simp
        exact Or.comm
end Go.Proofs.Ytljpgmhgnfnbkaa
