/- The document's lists: same, both, put, of. -/
import Derived.Test.YtljpgmhgnfnbkaaBRef1
namespace Go.Proofs.Ytljpgmhgnfnbkaa
open Go.RowKit Go.Sort

theorem take_more {l : List Int} {k : Nat} (h : k < l.length) : l.take (k + 1) = l.take k ++ [l.getD k 0] ∧ l.getD k 0 ∈ l := by
  rw [List.take_add_one]
  simp [List.getD, h]

def BoolPost (b : Bool) (w : World) (e : Ending) (w' : World) : Prop := e = .returned (.bool b) ∧ w.grownBy w' none

set_option maxRecDepth 100000 in
set_option maxHeartbeats 2000000 in
theorem RSame_c (p1 p2 : Option Addr) (c1 c2 : Nat) (l1 l2 : List Int) (w : World) (hl : l1.length ≤ 1000000) (h1 : LAt w p1 l1) (h2 : LAt w p2 l2) : Calls Try.prog 12 #[.slice p1 l1.length c1, .slice p2 l2.length c2] w (BoolPost (decide (l1 = l2)) w) := by
  by_cases hlen : l1.length = l2.length
  · obtain ⟨n, hn⟩ : ∃ n, l1.length = n := ⟨_, rfl⟩
    have hn2 : l2.length = n := by omega
    have HN1 := Lib.hid hn; have HN2 := Lib.hid hn2; have HA1 := Lib.hid h1; have HA2 := Lib.hid h2
    rw [hn] at hl
    rw [hn, hn2]
    clear hn hn2 h1 h2 hlen
    go_enter Try.func12, Try.ntmps12
    go_wp2_with fail
    go_loopw [5] (fun i wr => ∃ k : Nat, k ≤ n ∧ i = .int .i64 k ∧ Hid (l1.take k = l2.take k) ∧ Hid (w.grownBy wr none)) (fun i _ => n - (intOf i).toNat)
    case atStart => exact ⟨0, by omega, rfl, Lib.hid (by simp), gb_refl _ _⟩
    case round =>
      obtain ⟨k, hk, rfl, HX, HG⟩ := hrel
      by_cases hlt : k < n
      · have hne1 : l1 ≠ [] := fun e => by have := HN1.out; rw [e] at this; simp at this; omega
        have hne2 : l2 ≠ [] := fun e => by have := HN2.out; rw [e] at this; simp at this; omega
        obtain ⟨g1, o1, rfl, hg1, hc1⟩ := HA1.out.resolve_left hne1
        obtain ⟨g2, o2, rfl, hg2, hc2⟩ := HA2.out.resolve_left hne2
        have hck1 := HG.out.cell (hc1 k (by have := HN1.out; omega)) (by simp)
        have hck2 := HG.out.cell (hc2 k (by have := HN2.out; omega)) (by simp)
        have HT1 := Lib.hid (take_more (l := l1) (k := k) (by have := HN1.out; omega))
        have HT2 := Lib.hid (take_more (l := l2) (k := k) (by have := HN2.out; omega))
        clear hc1 hc2 hne1 hne2
        generalize l1.getD k 0 = y1 at *
        generalize l2.getD k 0 = y2 at *
        by_cases he : y1 = y2
        · subst he
          go_wp2_with fail
          go_region
          all_goals
            go_wp2_with fail
            go_roundw
            case rel => exact ⟨k + 1, by omega, by go_num, Lib.hid (by rw [HT1.out.1, HT2.out.1, HX.out]), gb_drew HG.out⟩
            case measure => simp [intOf]; omega
        · have d1 : (y1 != y2) = true := bne_iff_ne.2 he
          have HM : Hid (decide (l1 = l2) = false) := Lib.hid (decide_eq_false fun e => he (by
            have e1 := HT1.out.1
            have e2 := HT2.out.1
            rw [← e, e1] at e2
            have e3 := List.append_inj e2 (by rw [HX.out])
            simpa using e3.2))
          clear he
          go_wp2_with fail
          go_region
          all_goals
            go_wp2_with fail
            go_ret
            exact ⟨by rw [HM.out]; rfl, gb_drew HG.out⟩
      · obtain rfl : k = n := by omega
        have HM : Hid (decide (l1 = l2) = true) := Lib.hid (decide_eq_true (by have := HX.out; rwa [List.take_of_length_le (by have := HN1.out; omega), List.take_of_length_le (by have := HN2.out; omega)] at this))
        go_wp2_with fail
        go_ret
        exact ⟨by rw [HM.out]; rfl, HG.out⟩
  · have d1 : ((l1.length : Int) != (l2.length : Int)) = true := bne_iff_ne.2 (by omega)
    have HM : Hid (decide (l1 = l2) = false) := Lib.hid (decide_eq_false fun e => hlen (by rw [e]))
    clear hlen h1 h2 hl
    generalize l1.length = n1 at *
    generalize l2.length = n2 at *
    go_enter Try.func12, Try.ntmps12
    go_wp2_with fail
    go_ret
    exact ⟨by rw [HM.out]; rfl, gb_refl _ _⟩

/-- A list of numbers handed back. -/
def ListPost (w : World) (P : List Int → Prop) (e : Ending) (w' : World) : Prop := ∃ S p n c, e = .returned (.slice p n c) ∧ P S ∧ IsL w' (.slice p n c) S ∧ w.grownBy w' none

set_option maxRecDepth 100000 in
set_option maxHeartbeats 2000000 in
theorem RBoth_c (p1 p2 : Option Addr) (c1 c2 : Nat) (l1 l2 : List Int) (b : Bool) (w : World) (hl : l1.length ≤ 1000000) (hl2 : l2.length ≤ 1000000) (h1 : LAt w p1 l1) (h2 : LAt w p2 l2) :
    Calls Try.prog 19 #[.slice p1 l1.length c1, .slice p2 l2.length c2, .bool b] w (ListPost w (fun S => S = l1.filter fun x => decide (x ∈ l2) == b)) := by
  obtain ⟨n, hn⟩ : ∃ n, l1.length = n := ⟨_, rfl⟩
  have HN1 := Lib.hid hn; have HA1 := Lib.hid h1
  have HR := Lib.hid (fun (w' : World) (hb : Below w.heap.size w w') (x : Int) => RHas_c p2 c2 l2 x w' hl2 (h2.low hb h2.blk))
  rw [hn] at hl ⊢
  clear hn h1 h2 hl2
  generalize l2.length = n2 at *
  go_enter Try.func19, Try.ntmps19
  go_wp2_with fail
  go_loopw [7, 8] (fun v i wr => ∃ k : Nat, k ≤ n ∧ i = .int .i64 k ∧ Hid (∃ p' n' c', v = .slice p' n' c') ∧ Hid (OwnL wr w.heap.size v ((l1.take k).filter fun x => decide (x ∈ l2) == b)) ∧ Hid (Below w.heap.size w wr)) (fun _ i _ => n - (intOf i).toNat)
  case atStart => exact ⟨0, by omega, rfl, Lib.hid ⟨_, _, _, rfl⟩, Lib.hid (by simpa using OwnL.nil w w.heap.size), Below.refl _ _⟩
  case round =>
    obtain ⟨k, hk, rfl, HV, HO, HB⟩ := hrel
    by_cases hlt : k < n
    · have hne1 : l1 ≠ [] := fun e => by have := HN1.out; rw [e] at this; simp at this; omega
      obtain ⟨g1, o1, rfl, hg1, hc1⟩ := HA1.out.resolve_left hne1
      have hck := (HB.out.cell (p := ⟨g1, o1 + k, none⟩) hg1).trans (hc1 k (by have := HN1.out; omega))
      have HT1 := Lib.hid (take_more (l := l1) (k := k) (by have := HN1.out; omega))
      have HLEN : Hid (((l1.take k).filter fun x => decide (x ∈ l2) == b).length ≤ 1000000) := Lib.hid (by
        have e1 := List.length_filter_le (fun x => decide (x ∈ l2) == b) (l1.take k)
        have e2 : (l1.take k).length ≤ k := by simp; omega
        omega)
      clear hc1 hne1
      generalize l1.getD k 0 = y at *
      have HCH := Lib.hid (HR.out _ HB.out y)
      obtain ⟨ok, hok⟩ : ∃ ok, decide (y ∈ l2) = ok := ⟨_, rfl⟩
      rw [hok] at HCH
      by_cases he : ok = b
      · subst he
        have HF : Hid ((l1.take (k + 1)).filter (fun x => decide (x ∈ l2) == ok) = (l1.take k).filter (fun x => decide (x ∈ l2) == ok) ++ [y]) := Lib.hid (by rw [HT1.out.1, List.filter_append]; simp [hok])
        clear hok
        go_wp2_with (first
          | (go_at_call 16; refine HCH.out.mono ?_; rintro e w2 ⟨rfl, rfl⟩)
          | (at_builtin; go_loud (refine wpList_appI (t := 22) Try.underlying22 rfl _ _ rfl w.heap.size _ y u7 rfl HO.out _ rfl rfl HLEN.out (HB.out.size) ?_)))
        intro g' cap' w3 hO3 hB3
        have HO3 : Hid (OwnL w3 w.heap.size (.slice (some ⟨g', 0, none⟩) (((l1.take k).filter fun x => decide (x ∈ l2) == ok).length + 1) cap') ((l1.take (k + 1)).filter fun x => decide (x ∈ l2) == ok)) := Lib.hid (by rw [HF.out]; exact hO3)
        have HB3 := Lib.hid (Below.trans2 HB.out hB3)
        clear hO3 hB3
        go_wp2_with fail
        go_roundw
        case rel => exact ⟨k + 1, by omega, by go_num, Lib.hid ⟨_, _, _, rfl⟩, HO3, HB3⟩
        case measure => simp [intOf]; omega
      · have HF : Hid ((l1.take (k + 1)).filter (fun x => decide (x ∈ l2) == b) = (l1.take k).filter (fun x => decide (x ∈ l2) == b)) := Lib.hid (by rw [HT1.out.1, List.filter_append]; simp [hok, he])
        have d1 : (ok == b) = false := beq_eq_false_iff_ne.2 he
        clear hok he
        go_wp2_with (go_at_call 16; refine HCH.out.mono ?_; rintro e w2 ⟨rfl, rfl⟩)
        go_roundw
        case rel => exact ⟨k + 1, by omega, by go_num, HV, Lib.hid (by rw [HF.out]; exact HO.out), HB⟩
        case measure => simp [intOf]; omega
    · obtain rfl : k = n := by omega
      obtain ⟨p', n', c', rfl⟩ := HV.out
      have hfin := HO.out
      rw [List.take_of_length_le (by have := HN1.out; omega)] at hfin
      have HF := Lib.hid (isL_of_row hfin).1
      clear hfin
      go_wp2_with fail
      go_ret
      exact ⟨_, _, _, _, rfl, rfl, HF.out, below_gb HB.out⟩
end Go.Proofs.Ytljpgmhgnfnbkaa
