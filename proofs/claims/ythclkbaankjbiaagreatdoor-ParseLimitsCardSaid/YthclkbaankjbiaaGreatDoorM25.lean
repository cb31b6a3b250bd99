/- All tokens of a text are the text; where they stand. -/
import Derived.Test.YthclkbaankjbiaaGreatDoorM6
import Derived.Test.YthclkbaankjbiaaGreatDoorM5
import Derived.Deep.WholeRow
namespace Go.Proofs.YthclkbaankjbiaaGreatDoor

theorem tok_whole (l : List UInt8) (p : Nat) : (tokE l p).lead ++ (tokE l p).text = l.take (stepE l) := by
  unfold tokE stepE; rw [List.take_add]

theorem wholeL_cons (t : Tok) (l : List Tok) : wholeL (t :: l) = t.lead ++ t.text ++ wholeL l := rfl

theorem end_whole {l : List UInt8} {p : Nat} (h5 : (tokE l p).kind = 5) : stepE l = l.length ∧ (tokE l p).text = [] := by
  have h1 := ((firstE_kind (l.drop (sk false l))).2).1 h5
  have h2 : l.length ≤ sk false l := by
    have := congrArg List.length h1; rw [List.length_drop, List.length_nil] at this; omega
  have h3 := sk_le l false
  constructor
  · unfold stepE; rw [h1]; simp [firstE]; omega
  · unfold tokE; rw [h1]; rfl

theorem text_pos {l : List UInt8} {p : Nat} (h : wrongE (tokE l p).kind (tokE l p).text = 0) (h5 : (tokE l p).kind ≠ 5) : (tokE l p).text ≠ [] := by
  have h0 : (firstE (l.drop (sk false l))).1 ≠ 0 := fun e => by
    unfold wrongE at h
    rw [if_pos (.inl e)] at h; cases h
  have h1 := firstE_pos h5 h0
  have h2 := firstE_le (l.drop (sk false l))
  intro e
  have h3 : ((l.drop (sk false l)).take (firstE (l.drop (sk false l))).2).length = ([] : List UInt8).length := congrArg List.length e
  rw [List.length_take, List.length_nil, Nat.min_eq_left h2] at h3
  omega

theorem whole_lexG : ∀ (f : Nat) (l : List UInt8) (p : Nat), l.length < f → (lexG f l p).2.1 = 0 → wholeL (lexG f l p).1 = l
  | 0, l, p, h, _ => by omega
  | f + 1, l, p, h, h0 => by
    by_cases hw : wrongE (tokE l p).kind (tokE l p).text = 0
    · by_cases h5 : (tokE l p).kind = 5
      · rw [lexG_end hw h5, wholeL_cons, tok_whole, (end_whole h5).1, List.take_length]; simp [wholeL]
      · rw [lexG_more hw h5] at h0 ⊢
        have h1 := stepE_pos hw h5
        have h2 := stepE_le l
        rw [wholeL_cons, tok_whole, whole_lexG f (l.drop (stepE l)) _ (by rw [List.length_drop]; omega) h0, List.take_append_drop]
    · rw [lexG_fault hw] at h0
      exact absurd h0 hw

theorem whole_all {l : List UInt8} (h : (allE l).2.1 = 0) : wholeL (allE l).1 = l := whole_lexG _ l 0 (by omega) h

theorem fault_le : ∀ (f : Nat) (l : List UInt8) (p : Nat), (lexG f l p).2.2 ≤ p + l.length
  | 0, l, p => by simp [lexG]
  | f + 1, l, p => by
    by_cases hw : wrongE (tokE l p).kind (tokE l p).text = 0
    · by_cases h5 : (tokE l p).kind = 5
      · rw [lexG_end hw h5]; simp
      · rw [lexG_more hw h5]
        have h1 := fault_le f (l.drop (stepE l)) (p + stepE l)
        have h2 := stepE_le l
        rw [List.length_drop] at h1
        simp only; omega
    · rw [lexG_fault hw]
      have := sk_le l false
      show p + sk false l ≤ _
      omega

theorem fault_none : ∀ (f : Nat) (l : List UInt8) (p : Nat), (lexG f l p).2.1 = 0 → (lexG f l p).2.2 = 0
  | 0, l, p, _ => rfl
  | f + 1, l, p, h => by
    by_cases hw : wrongE (tokE l p).kind (tokE l p).text = 0
    · by_cases h5 : (tokE l p).kind = 5
      · rw [lexG_end hw h5]
      · rw [lexG_more hw h5] at h ⊢
        exact fault_none f _ _ h
    · rw [lexG_fault hw] at h
      exact absurd h hw

/-- Each token stands at its place; the end alone is empty, and the last one. -/
def PlaceE (p : Nat) (L : List Tok) : Prop := ∀ i t, L[i]? = some t → t.pos = p + (wholeL (L.take i)).length + t.lead.length ∧ (t.kind = 5 ↔ i + 1 = L.length) ∧ (t.text = [] ↔ t.kind = 5)

theorem place_lexG : ∀ (f : Nat) (l : List UInt8) (p : Nat), l.length < f → (lexG f l p).2.1 = 0 → PlaceE p (lexG f l p).1 ∧ (lexG f l p).1 ≠ []
  | 0, l, p, h, _ => by omega
  | f + 1, l, p, h, h0 => by
    by_cases hw : wrongE (tokE l p).kind (tokE l p).text = 0
    · have hlead : (tokE l p).lead.length = sk false l := by
        unfold tokE; simp only [List.length_take]; have := sk_le l false; omega
      by_cases h5 : (tokE l p).kind = 5
      · rw [lexG_end hw h5]
        refine ⟨fun i t hi => ?_, by simp⟩
        match i, hi with
        | 0, hi =>
          simp at hi; subst hi
          refine ⟨?_, by simp [h5], by simp [h5, (end_whole h5).2]⟩
          rw [hlead]; simp [wholeL]; rfl
      · rw [lexG_more hw h5] at h0 ⊢
        have h1 := stepE_pos hw h5
        have h2 := stepE_le l
        obtain ⟨ih, hne⟩ := place_lexG f (l.drop (stepE l)) (p + stepE l) (by rw [List.length_drop]; omega) h0
        refine ⟨fun i t hi => ?_, by simp⟩
        match i, hi with
        | 0, hi =>
          simp at hi; subst hi
          have ht := text_pos hw h5
          refine ⟨?_, ?_, by simp [h5, ht]⟩
          · rw [hlead]; simp [wholeL]; rfl
          · simp [h5]
            intro e; exact hne e
        | i + 1, hi =>
          obtain ⟨a1, a2, a3⟩ := ih i t (by simpa using hi)
          refine ⟨?_, by rw [a2]; simp, a3⟩
          rw [a1, List.take_succ_cons, wholeL_cons, tok_whole, List.length_append, List.length_take, Nat.min_eq_left h2]
          omega
    · rw [lexG_fault hw] at h0
      exact absurd h0 hw

theorem place_all {l : List UInt8} (h : (allE l).2.1 = 0) : PlaceE 0 (allE l).1 ∧ (allE l).1 ≠ [] := place_lexG _ l 0 (by omega) h
theorem len_all {l : List UInt8} (h : (allE l).2.1 = 0) : (allE l).1.length ≤ l.length + 1 := by
  have h1 := (place_all h).1
  have h2 : ∀ (L : List Tok), (∀ i t, L[i]? = some t → (t.text = [] ↔ i + 1 = L.length)) → L.length ≤ (wholeL L).length + 1 := by
    intro L hL
    have key : ∀ (L : List Tok), (∀ t ∈ L, t.text ≠ []) → L.length ≤ (wholeL L).length := by
      intro L
      induction L with
      | nil => intro _; exact Nat.le_refl _
      | cons t L ih =>
        intro hh
        have a := ih (fun t ht => hh t (List.mem_cons_of_mem _ ht))
        have b := List.length_pos_iff.2 (hh t (List.mem_cons_self ..))
        rw [wholeL_cons]; simp only [List.length_cons, List.length_append]; omega
    have h3 := key (L.take (L.length - 1)) (fun t ht => by
      obtain ⟨i, hi⟩ := List.getElem?_of_mem ht
      rw [List.getElem?_take] at hi
      split at hi
      · rename_i hlt
        intro e
        have := (hL i t hi).1 e
        omega
      · cases hi)
    have h4 := wholeL_take L (L.length - 1)
    rw [List.length_take] at h3
    omega
  have h5 := h2 (allE l).1 (fun i t hi => by obtain ⟨_, a, b⟩ := h1 i t hi; rw [b, a])
  rw [whole_all h] at h5; exact h5
end Go.Proofs.YthclkbaankjbiaaGreatDoor
namespace Go.Proofs.YthclkbaankjbiaaGreatDoor
open Go.RowKit

set_option maxRecDepth 100000 in
theorem rdigit_c (b : UInt8) (w : World) : Calls Tryz.prog 78 #[.int .u8 (b.toNat : Int)] w (BoolIs (isDig b) w) := by
  rw [isDig_nat]
  have hb := b.toNat_lt
  generalize b.toNat = n at *
  go_enter Tryz.func78, Tryz.ntmps78
  go_wp2
  all_goals
    go_ret
    refine ⟨ret_bool ?_, rfl⟩
    rw [Bool.eq_iff_iff]; simp; try omega

set_option maxRecDepth 100000 in
theorem rletter_c (b : UInt8) (w : World) : Calls Tryz.prog 77 #[.int .u8 (b.toNat : Int)] w (BoolIs (isLet b) w) := by
  rw [isLet_nat]
  have hb := b.toNat_lt
  generalize b.toNat = n at *
  go_enter Tryz.func77, Tryz.ntmps77
  go_wp2
  all_goals
    go_ret
    refine ⟨ret_bool ?_, rfl⟩
    rw [Bool.eq_iff_iff]; simp; try omega

set_option maxRecDepth 100000 in
theorem rblank_c (b : UInt8) (w : World) : Calls Tryz.prog 76 #[.int .u8 (b.toNat : Int)] w (BoolIs (isBl b) w) := by
  rw [isBl_nat]
  have hb := b.toNat_lt
  generalize b.toNat = n at *
  go_enter Tryz.func76, Tryz.ntmps76
  go_wp2
  all_goals
    go_ret
    refine ⟨ret_bool ?_, rfl⟩
    rw [Bool.eq_iff_iff]; simp; try omega

theorem drop_at {s : ByteArray} {k : Nat} (h : k < s.size) : s.data.toList.drop k = s[k] :: s.data.toList.drop (k + 1) := by
  have h1 := byte_at (s := s) h
  obtain ⟨h2, h3⟩ := List.getElem?_eq_some_iff.1 h1
  have := List.drop_eq_getElem_cons h2
  rw [h3] at this
  exact this

theorem drop_end {s : ByteArray} {k : Nat} (h : s.size ≤ k) : s.data.toList.drop k = [] := List.drop_of_length_le (by rw [list_len]; exact h)

set_option maxRecDepth 100000 in
set_option maxHeartbeats 8000000 in
theorem rlead_c (s : ByteArray) (p0 : Nat) (w : World) (hs : s.size ≤ 1000000) (hp0 : p0 ≤ s.size) : Calls Tryz.prog 42 #[.string s, .int .i64 (p0 : Int)] w (IntIs ((p0 + sk false (s.data.toList.drop p0) : Nat) : Int) w) := by
  obtain ⟨V, hV⟩ : ∃ V, p0 + sk false (s.data.toList.drop p0) = V := ⟨_, rfl⟩
  rw [hV]
  have HV := Lib.hid hV
  have HBL := Lib.hid (fun b W => rblank_c b W)
  clear hV
  go_enter Tryz.func42, Tryz.ntmps42
  go_wp2_with fail
  go_loopw [1] (fun i wr => ∃ p : Nat, p ≤ s.size ∧ i = .int .i64 p ∧ Hid (p + sk false (s.data.toList.drop p) = V) ∧ wr = w) (fun i _ => s.size - (intOf i).toNat)
  case atStart => exact ⟨p0, hp0, rfl, HV, rfl⟩
  case round =>
    clear HV hp0
    obtain ⟨p, hp, rfl, HV, rfl⟩ := hrel
    by_cases hlt : p < s.size
    · have d1 : decide ((p : Int) < (s.size : Int)) = true := decide_eq_true (by omega)
      have d1' : decide (p < s.size) = true := decide_eq_true hlt
      have HB := Lib.hid (HBL.out s[p] wr)
      have hd := drop_at hlt
      have hw1 : IntKind.i64.wrap ((p : Int) + 1) = (p : Int) + 1 := IntWalk.i64_in _ (by omega)
      cases hx : isBl s[p]
      · rw [hx] at HB
        by_cases h45 : s[p] = 45
        · have d2 : ((s[p].toNat : Int) == 45) = true := byte_eq 45 rfl h45
          by_cases hlt2 : p + 1 < s.size
          · have d3 : decide ((p : Int) + 1 < (s.size : Int)) = true := decide_eq_true (by omega)
            have d3' : decide (p + 1 < s.size) = true := decide_eq_true hlt2
            have hd2 := drop_at hlt2
            by_cases h452 : s[p + 1] = 45
            · have d4 : ((s[p + 1].toNat : Int) == 45) = true := byte_eq 45 rfl h452
              have HV2 : Hid (p + sk true (s.data.toList.drop p) = V) := Lib.hid (by
                rw [← HV.out, hd, hd2]
                simp [sk, h45, h452, isBl])
              have H45 := Lib.hid h45
              clear hx hd hd2 h45 h452
              go_wp2_with fail
              refine HB.out.mono ?_
              rintro e w1 ⟨rfl, rfl⟩
              go_wp2_with fail
              clear d1 d1' d2 d3 d3' d4 HB
              go_loopw [1] (fun i wr2 => ∃ q : Nat, p ≤ q ∧ q ≤ s.size ∧ i = .int .i64 q ∧ Hid (q + sk true (s.data.toList.drop q) = V) ∧ wr2 = wr) (fun i _ => s.size - (intOf i).toNat)
              case atStart => exact ⟨p, Nat.le_refl _, hp, rfl, HV2, rfl⟩
              case round =>
                clear HV2
                obtain ⟨q, hpq, hq, rfl, HV2, rfl⟩ := hrel
                by_cases hlt3 : q < s.size
                · have d1 : decide ((q : Int) < (s.size : Int)) = true := decide_eq_true (by omega)
                  have d1' : decide (q < s.size) = true := decide_eq_true hlt3
                  have hd := drop_at hlt3
                  by_cases h10 : s[q] = 10
                  · have d2 : ((s[q].toNat : Int) == 10) = true := byte_eq 10 rfl h10
                    have d2' : ((s[q].toNat : Int) != 10) = false := by rw [bne, d2]; rfl
                    have HV3 : Hid (q + sk false (s.data.toList.drop q) = V) := Lib.hid (by
                      rw [← HV2.out, hd]
                      simp [sk, h10, isBl])
                    have hne : q ≠ p := by
                      rintro rfl
                      rw [H45.out] at h10; cases h10
                    clear hd h10
                    go_wp2_with fail
                    go_roundw
                    case rel => exact ⟨q, hq, rfl, HV3, by first | rfl | trivial⟩
                    case measure => (simp [intOf] <;> omega)
                  · have d2 : ((s[q].toNat : Int) == 10) = false := byte_ne 10 rfl h10
                    have d2' : ((s[q].toNat : Int) != 10) = true := by rw [bne, d2]; rfl
                    have hw2 : IntKind.i64.wrap ((q : Int) + 1) = (q : Int) + 1 := IntWalk.i64_in _ (by omega)
                    have HV3 : Hid (q + 1 + sk true (s.data.toList.drop (q + 1)) = V) := Lib.hid (by
                      rw [← HV2.out, hd]
                      simp [sk, h10]; omega)
                    clear hd h10
                    go_wp2_with fail
                    go_roundw
                    case rel => exact ⟨q + 1, by omega, by omega, by go_num, HV3, by first | rfl | trivial⟩
                    case measure => (simp [intOf] <;> omega)
                · obtain rfl : q = s.size := by omega
                  have d1 : decide ((s.size : Int) < (s.size : Int)) = false := decide_eq_false (by omega)
                  have HV3 : Hid (s.size + sk false (s.data.toList.drop s.size) = V) := Lib.hid (by
                    rw [← HV2.out, drop_end (Nat.le_refl _)]; rfl)
                  go_wp2_with fail
                  go_roundw
                  case rel => exact ⟨s.size, Nat.le_refl _, rfl, HV3, by first | rfl | trivial⟩
                  case measure => (simp [intOf] <;> omega)
            · have d4 : ((s[p + 1].toNat : Int) == 45) = false := byte_ne 45 rfl h452
              have HR : Hid (p = V) := Lib.hid (by
                rw [← HV.out, hd, hd2]
                simp [sk, h45, h452, isBl])
              clear hx hd hd2 h45 h452
              go_wp2_with fail
              refine HB.out.mono ?_
              rintro e w1 ⟨rfl, rfl⟩
              go_wp2_with fail
              go_ret
              exact ⟨by rw [← HR.out]; rfl, rfl⟩
          · have d3 : decide ((p : Int) + 1 < (s.size : Int)) = false := decide_eq_false (by omega)
            have d3' : decide (p + 1 < s.size) = false := decide_eq_false hlt2
            have HR : Hid (p = V) := Lib.hid (by
              rw [← HV.out, hd, drop_end (by omega)]
              simp [sk, h45, isBl])
            clear hx hd h45
            go_wp2_with fail
            refine HB.out.mono ?_
            rintro e w1 ⟨rfl, rfl⟩
            go_wp2_with fail
            go_ret
            exact ⟨by rw [← HR.out]; rfl, rfl⟩
        · have d2 : ((s[p].toNat : Int) == 45) = false := byte_ne 45 rfl h45
          have HR : Hid (p = V) := Lib.hid (by
            rw [← HV.out, hd]
            simp [sk, h45, hx])
          clear hx hd h45
          by_cases hlt2 : p + 1 < s.size
          · have d3 : decide ((p : Int) + 1 < (s.size : Int)) = true := decide_eq_true (by omega)
            have d3' : decide (p + 1 < s.size) = true := decide_eq_true hlt2
            go_wp2_with fail
            refine HB.out.mono ?_
            rintro e w1 ⟨rfl, rfl⟩
            go_wp2_with fail
            go_ret
            exact ⟨by rw [← HR.out]; rfl, rfl⟩
          · have d3 : decide ((p : Int) + 1 < (s.size : Int)) = false := decide_eq_false (by omega)
            have d3' : decide (p + 1 < s.size) = false := decide_eq_false hlt2
            go_wp2_with fail
            refine HB.out.mono ?_
            rintro e w1 ⟨rfl, rfl⟩
            go_wp2_with fail
            go_ret
            exact ⟨by rw [← HR.out]; rfl, rfl⟩
      · rw [hx] at HB
        have HV3 : Hid (p + 1 + sk false (s.data.toList.drop (p + 1)) = V) := Lib.hid (by
          rw [← HV.out, hd]
          simp [sk, hx]; omega)
        clear hx hd
        go_wp2_with fail
        refine HB.out.mono ?_
        rintro e w1 ⟨rfl, rfl⟩
        go_wp2_with fail
        go_roundw
        case rel => exact ⟨p + 1, by omega, by go_num, HV3, by first | rfl | trivial⟩
        case measure => (simp [intOf] <;> omega)
    · obtain rfl : p = s.size := by omega
      have d1 : decide ((s.size : Int) < (s.size : Int)) = false := decide_eq_false (by omega)
      have HR : Hid (s.size = V) := Lib.hid (by
        rw [← HV.out, drop_end (Nat.le_refl _)]; rfl)
      go_wp2_with fail
      go_ret
      exact ⟨by rw [← HR.out]; rfl, rfl⟩
end Go.Proofs.YthclkbaankjbiaaGreatDoor
namespace Go.Proofs.YthclkbaankjbiaaGreatDoor
open Go.RowKit

def GbBool (v : Bool) (w : World) (e : Ending) (w' : World) : Prop := e = .returned (.bool v) ∧ w.grownBy w' none

def rkeysL : List (List UInt8) := [[105, 109, 112, 111, 114, 116], [112, 117, 98], [102, 117, 110], [108, 101, 116], [105, 110], [105, 102], [116, 104, 101, 110], [101, 108, 115, 101], [97, 115, 115, 101, 114, 116], [116, 114, 117, 101], [102, 97, 108, 115, 101], [110, 111, 116], [105, 110, 116], [98, 111, 111, 108], [114, 101, 115]]

theorem rkeys_same (w : List UInt8) : rkeysL.contains w = keysL.contains w := by
  have h1 : ∀ g ∈ rkeysL, g ∈ keysL := by decide
  have h2 : ∀ g ∈ keysL, g ∈ rkeysL := by decide
  rw [Bool.eq_iff_iff, List.contains_iff_mem, List.contains_iff_mem]
  exact ⟨h1 w, h2 w⟩

theorem cell_arr {w : World} {T : TypeId} {L : List (List UInt8)} {k : Nat} {x : List UInt8} (hx : L[k]? = some x) : (w.alloc (.cells (L.map strV).toArray T)).cell? ⟨w.heap.size, k, none⟩ = some (.string ⟨x.toArray⟩) := by
  rw [cell_of_row _ w.heap.size k _ T (0, 0) (heap_alloc_new w _)]
  simp [hx, strV]

theorem ones_arr (L : List (List UInt8)) : (L.map strV).toArray.all (·.oneCell') = true := by
  simp [strV, Value.oneCell']

set_option maxRecDepth 100000 in
set_option maxHeartbeats 4000000 in
theorem rkey_c (s : ByteArray) (w : World) : Calls Tryz.prog 79 #[.string s] w (GbBool (keysL.contains s.data.toList) w) := by
  rw [← rkeys_same]
  have HST : Hid (rkeysL.contains s.data.toList = (rkeysL.drop 0).contains s.data.toList) := Lib.hid rfl
  have HSL := Lib.hid (toList_data s)
  go_enter Tryz.func79, Tryz.ntmps79
  go_wp2_with (refine wpList_store_row rfl 124 _ _ rfl w.heap.size (rkeysL.map strV).toArray rfl rfl 124 _ (heap_alloc_new w _) (by kernel_rfl) rfl (ones_arr _) ?_)
  rw [World.setRow_alloc_new]
  have HW := Lib.hid (World.grownBy_alloc w (.cells (rkeysL.map strV).toArray 124) none)
  have HCE : Hid (∀ k x, rkeysL[k]? = some x → (w.alloc (.cells (rkeysL.map strV).toArray 124)).cell? ⟨w.heap.size, k, none⟩ = some (.string ⟨x.toArray⟩)) := Lib.hid (fun k x hx => cell_arr hx)
  generalize w.alloc (.cells (rkeysL.map strV).toArray 124) = W at *
  go_wp2
  go_loopw [4] (fun i wr => ∃ k : Nat, k ≤ 15 ∧ i = .int .i64 k ∧ Hid (rkeysL.contains s.data.toList = (rkeysL.drop k).contains s.data.toList) ∧ wr = W) (fun i _ => 15 - (intOf i).toNat)
  case atStart => exact ⟨0, Nat.zero_le _, rfl, HST, rfl⟩
  case round =>
    clear HST
    obtain ⟨k, hk, rfl, HC, rfl⟩ := hrel
    by_cases hlt : k < 15
    · have d1 : decide ((k : Int) < 15) = true := decide_eq_true (by omega)
      have d1' : decide (k < 15) = true := decide_eq_true hlt
      obtain ⟨x, hx⟩ : ∃ x, rkeysL[k]? = some x := ⟨rkeysL[k]'hlt, List.getElem?_eq_getElem _⟩
      have hc := HCE.out k x hx
      obtain ⟨y, hy⟩ : ∃ y : ByteArray, (⟨x.toArray⟩ : ByteArray) = y := ⟨_, rfl⟩
      have hyl : y.toList = x := by rw [toList_data, ← hy]
      rw [hy] at hc
      by_cases he : x = s.data.toList
      · have d2 : (y.toList == s.toList) = true := by rw [hyl, HSL.out, he]; simp
        have HR : Hid (rkeysL.contains s.data.toList = true) := Lib.hid (by rw [← he]; simpa using List.mem_of_getElem? hx)
        clear hx he hyl hy
        go_wp2
        go_ret
        exact ⟨by rw [HR.out]; rfl, HW.out⟩
      · have d2 : (y.toList == s.toList) = false := by rw [hyl, HSL.out]; simpa using he
        have HR := Lib.hid (contains_step HC.out hx he)
        clear hx he hyl hy
        go_wp2
        go_roundw
        case rel => exact ⟨k + 1, by omega, by go_num, HR, by first | rfl | trivial⟩
        case measure => (simp [intOf] <;> omega)
    · obtain rfl : k = 15 := by omega
      have HR : Hid (rkeysL.contains s.data.toList = false) := Lib.hid HC.out
      go_wp2
      go_ret
      exact ⟨by rw [HR.out]; rfl, HW.out⟩
end Go.Proofs.YthclkbaankjbiaaGreatDoor
namespace Go.Proofs.YthclkbaankjbiaaGreatDoor
open Go.RowKit

def IntGbN (v : Nat) (w : World) (e : Ending) (w' : World) : Prop := e = .returned (.int .i64 (v : Int)) ∧ w.grownBy w' none

theorem two_prefix {s : ByteArray} {p : Nat} {g : List UInt8} (hg : g.length = 2) : g = (s.extract p (p + 2)).data.toList ↔ g.isPrefixOf (s.data.toList.drop p) = true := by
  rw [List.isPrefixOf_iff_prefix, List.prefix_iff_eq_take, hg, ext_list, ← List.take_drop]

theorem two_short {s : ByteArray} {p : Nat} {g : List UInt8} (hg : g.length = 2) (h : s.size ≤ p + 1) : g.isPrefixOf (s.data.toList.drop p) = false := by
  rw [← Bool.not_eq_true]
  intro h2
  have := pre_len h2
  rw [hg, List.length_drop, list_len] at this
  omega

set_option maxRecDepth 100000 in
set_option maxHeartbeats 8000000 in
theorem rsign_c (s : ByteArray) (p : Nat) (w : World) (hs : s.size ≤ 1000000) (hp : p < s.size) : Calls Tryz.prog 80 #[.string s, .int .i64 (p : Int)] w (IntGbN (signN (s.data.toList.drop p)) w) := by
  have HDR := Lib.hid (drop_at hp)
  have HTL := Lib.hid (show ∀ g ∈ twosL, g.length = 2 by decide)
  have hw1 : IntKind.i64.wrap ((p : Int) + 1) = (p : Int) + 1 := IntWalk.i64_in _ (by omega)
  have hw2 : IntKind.i64.wrap ((p : Int) + 2) = (p : Int) + 2 := IntWalk.i64_in _ (by omega)
  go_enter Tryz.func80, Tryz.ntmps80
  go_wp2_with (refine wpList_store_row rfl 125 _ _ rfl w.heap.size (twosL.map strV).toArray rfl rfl 125 _ (heap_alloc_new w _) (by kernel_rfl) rfl (ones_arr _) ?_)
  rw [World.setRow_alloc_new]
  have HW := Lib.hid (World.grownBy_alloc w (.cells (twosL.map strV).toArray 125) none)
  have HCE : Hid (∀ k x, twosL[k]? = some x → (w.alloc (.cells (twosL.map strV).toArray 125)).cell? ⟨w.heap.size, k, none⟩ = some (.string ⟨x.toArray⟩)) := Lib.hid (fun k x hx => cell_arr hx)
  have HZ : Hid (w.heap.size < (w.alloc (.cells (twosL.map strV).toArray 125)).heap.size) := Lib.hid (by simp)
  generalize w.alloc (.cells (twosL.map strV).toArray 125) = W at *
  go_wp2
  go_loopw [6] (fun i wr => ∃ k : Nat, k ≤ 6 ∧ i = .int .i64 k ∧ Hid (∀ g ∈ twosL.take k, g.isPrefixOf (s.data.toList.drop p) = false) ∧ Hid (W.grownBy wr none)) (fun i _ => 6 - (intOf i).toNat)
  case atStart => exact ⟨0, Nat.zero_le _, rfl, Lib.hid (fun g hg => by cases hg), gb_refl _ _⟩
  case round =>
    obtain ⟨k, hk, rfl, HC, HG⟩ := hrel
    by_cases hlt : k < 6
    · have d1 : decide ((k : Int) < 6) = true := decide_eq_true (by omega)
      have d1' : decide (k < 6) = true := decide_eq_true hlt
      obtain ⟨x, hx⟩ : ∃ x, twosL[k]? = some x := ⟨twosL[k]'hlt, List.getElem?_eq_getElem _⟩
      have hxm := List.mem_of_getElem? hx
      have hxl := HTL.out x hxm
      have hc := HG.out.cell (HCE.out k x hx) (by simp)
      obtain ⟨y, hy⟩ : ∃ y : ByteArray, (⟨x.toArray⟩ : ByteArray) = y := ⟨_, rfl⟩
      have hyl : y.toList = x := by rw [toList_data, ← hy]
      rw [hy] at hc
      have step : x.isPrefixOf (s.data.toList.drop p) = false → ∀ g ∈ twosL.take (k + 1), g.isPrefixOf (s.data.toList.drop p) = false := fun hne g hg => by
        rw [List.take_add_one, hx] at hg
        rcases List.mem_append.1 hg with hg | hg
        · exact HC.out g hg
        · simp at hg; subst hg; exact hne
      by_cases hlt2 : p + 1 < s.size
      · have d3 : decide ((p : Int) + 1 < (s.size : Int)) = true := decide_eq_true (by omega)
        have d3' : decide (p + 1 < s.size) = true := decide_eq_true hlt2
        cases hpre : x.isPrefixOf (s.data.toList.drop p)
        · have d2 : ((s.extract p (p + 2)).toList == y.toList) = false := by
            rw [hyl, toList_data, beq_eq_false_iff_ne]
            intro e
            have := (two_prefix hxl).1 e.symm
            rw [hpre] at this; cases this
          have HR := Lib.hid (step hpre)
          clear step hpre hx hxm hxl hyl hy HDR HTL
          go_wp2_with fail
          go_quiet (fail)
          go_wp2_with fail
          go_roundw
          case rel => exact ⟨k + 1, by omega, by go_num, HR, Lib.hid (gb_drewN HG.out _)⟩
          case measure => (simp [intOf] <;> omega)
        · have d2 : ((s.extract p (p + 2)).toList == y.toList) = true := by
            rw [hyl, toList_data, ← (two_prefix hxl).2 hpre]; simp
          have HR : Hid (signN (s.data.toList.drop p) = 2) := Lib.hid (signN_two hxm hpre)
          clear step hpre hx hxm hxl hyl hy HDR HTL
          go_wp2_with fail
          go_quiet (fail)
          go_wp2_with fail
          go_ret
          exact ⟨by rw [HR.out]; rfl, gb_trans HW.out (gb_drewN HG.out _)⟩
      · have d3 : decide ((p : Int) + 1 < (s.size : Int)) = false := decide_eq_false (by omega)
        have d3' : decide (p + 1 < s.size) = false := decide_eq_false hlt2
        have HR := Lib.hid (step (two_short hxl (by omega)))
        clear step hx hxm hxl hyl hy HDR HTL hc
        go_wp2_with fail
        go_quiet (fail)
        go_wp2_with fail
        go_roundw
        case rel => exact ⟨k + 1, by omega, by go_num, HR, Lib.hid (gb_drewN HG.out _)⟩
        case measure => (simp [intOf] <;> omega)
    · obtain rfl : k = 6 := by omega
      have HNO : Hid (∀ g ∈ twosL, g.isPrefixOf (s[p] :: s.data.toList.drop (p + 1)) = false) := Lib.hid (by rw [← HDR.out]; exact HC.out)
      go_wp2_with fail
      have HOO : Hid ((⟨#[40, 41, 123, 125, 44, 58, 59, 46, 43, 45, 42, 47, 37, 61, 60, 62]⟩ : ByteArray).data.toList = onesL) := Lib.hid rfl
      have hOs : (⟨#[40, 41, 123, 125, 44, 58, 59, 46, 43, 45, 42, 47, 37, 61, 60, 62]⟩ : ByteArray).size = 16 := rfl
      generalize (⟨#[40, 41, 123, 125, 44, 58, 59, 46, 43, 45, 42, 47, 37, 61, 60, 62]⟩ : ByteArray) = O at *
      have HOS := Lib.hid hOs
      clear hOs
      go_loopw [8] (fun i wr2 => ∃ k : Nat, k ≤ 16 ∧ i = .int .i64 k ∧ Hid (∀ b ∈ onesL.take k, s[p] ≠ b) ∧ Hid (W.grownBy wr2 none)) (fun i _ => 16 - (intOf i).toNat)
      case atStart => exact ⟨0, Nat.zero_le _, rfl, Lib.hid (fun g hg => by cases hg), HG⟩
      case round =>
        clear HG HC
        obtain ⟨k, hk, rfl, HC, HG⟩ := hrel
        by_cases hko : k < O.size
        · have d1 : decide ((k : Int) < (O.size : Int)) = true := decide_eq_true (by omega)
          have d1' : decide (k < O.size) = true := decide_eq_true hko
          have hk16 : k < 16 := by have := HOS.out; omega
          have hx := byte_at hko
          rw [HOO.out] at hx
          by_cases he : s[p] = O[k]
          · have d2 : ((s[p].toNat : Int) == (O[k].toNat : Int)) = true := by rw [he]; simp
            have HR : Hid (signN (s.data.toList.drop p) = 1) := Lib.hid (by rw [HDR.out]; exact signN_one HNO.out (by rw [he]; exact List.mem_of_getElem? hx))
            clear hx he HDR HTL
            go_wp2_with fail
            go_quiet (fail)
            go_wp2_with fail
            go_ret
            exact ⟨by rw [HR.out]; rfl, gb_trans HW.out (gb_drewN HG.out _)⟩
          · have d2 : ((s[p].toNat : Int) == (O[k].toNat : Int)) = false := byte_ne O[k] rfl he
            have HR : Hid (∀ b ∈ onesL.take (k + 1), s[p] ≠ b) := Lib.hid (fun b hb => by
              rw [List.take_add_one, hx] at hb
              rcases List.mem_append.1 hb with hb | hb
              · exact HC.out b hb
              · simp at hb; subst hb; exact he)
            clear hx he HDR HTL
            go_wp2_with fail
            go_quiet (fail)
            go_wp2_with fail
            go_roundw
            case rel => exact ⟨k + 1, by omega, by go_num, HR, Lib.hid (gb_drewN HG.out _)⟩
            case measure => (simp [intOf] <;> omega)
        · obtain rfl : k = 16 := by have := HOS.out; omega
          have d1 : decide ((16 : Int) < (O.size : Int)) = false := decide_eq_false (by have := HOS.out; omega)
          have d1' : decide (16 < O.size) = false := decide_eq_false hko
          have HR : Hid (signN (s.data.toList.drop p) = 0) := Lib.hid (by rw [HDR.out]; exact signN_none HNO.out (fun h => HC.out _ h rfl))
          go_wp2_with fail
          go_ret
          exact ⟨by rw [HR.out]; rfl, gb_trans HW.out HG.out⟩
end Go.Proofs.YthclkbaankjbiaaGreatDoor
