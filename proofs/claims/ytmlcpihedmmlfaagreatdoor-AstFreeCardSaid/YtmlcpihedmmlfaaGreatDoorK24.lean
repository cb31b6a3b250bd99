/- The law's own search for a name in a row. -/
import Derived.Test.YtmlcpihedmmlfaaGreatDoorK22
import Derived.Test.YtmlcpihedmmlfaaGreatDoorK23
import Derived.Test.YtmlcpihedmmlfaaGreatDoorK6
import Derived.Test.YtmlcpihedmmlfaaGreatDoorK8
import Derived.Test.YtmlcpihedmmlfaaGreatDoorK9
import Derived.Test.YtmlcpihedmmlfaaGreatDoorK5
import Derived.Test.YtmlcpihedmmlfaaGreatDoorK3
set_option linter.unusedVariables false
set_option linter.unusedSimpArgs false
namespace Go.Proofs.YtmlcpihedmmlfaaGreatDoor
open Go.RowKit

theorem sat_cell {w : World} {p : Option Addr} {l : List (List UInt8)} (h : Bg.SAt w p l) {j : Nat} (hj : j < l.length) : ∃ g off, p = some ⟨g, off, none⟩ ∧ g < w.heap.size ∧ w.cell? ⟨g, off + j, none⟩ = some (.string ⟨(l.getD j []).toArray⟩) := by
  rcases h with h | ⟨g, off, e, hg, hc⟩
  · rw [h] at hj; simp at hj
  · exact ⟨g, off, e, hg, hc j hj⟩
theorem mem_getD {l : List (List UInt8)} {x : List UInt8} : x ∈ l ↔ ∃ j, j < l.length ∧ l.getD j [] = x := by
  constructor
  · intro h
    obtain ⟨j, hj, e⟩ := List.mem_iff_getElem.1 h
    exact ⟨j, hj, by simp [List.getD, hj, e]⟩
  · rintro ⟨j, hj, e⟩
    refine List.mem_iff_getElem.2 ⟨j, hj, ?_⟩
    rw [← e]; simp [List.getD, hj]

set_option maxRecDepth 100000 in
set_option maxHeartbeats 4000000 in
theorem has_c (l : List (List UInt8)) (p : Option Addr) (c : Nat) (x : List UInt8) (w : World) (hl : l.length ≤ 1000000) (h : Bg.SAt w p l) :
    Calls Tryz.prog 51 #[.slice p l.length c, .string ⟨x.toArray⟩] w (BoolOf (x ∈ l) w) := by
  have HS := Lib.hid h
  obtain ⟨m, hm⟩ : ∃ m, l.length = m := ⟨_, rfl⟩
  have HM := Lib.hid hm
  obtain ⟨y, hy⟩ : ∃ y : ByteArray, (⟨x.toArray⟩ : ByteArray) = y := ⟨_, rfl⟩
  have hyl : y.toList = x := by rw [toList_data, ← hy]
  have HY := Lib.hid hyl
  rw [hm] at hl ⊢
  rw [hy]
  clear h hm hy hyl
  go_enter Tryz.func51, Tryz.ntmps51
  go_wp2_with fail
  go_loopw [9] (fun iv wr => ∃ j : Nat, j ≤ m ∧ iv = .int .i64 (j : Int) ∧ Hid (w.grownBy wr none) ∧ Hid (∀ i, i < j → l.getD i [] ≠ x)) (fun iv _ => m - (intOf iv).toNat)
  case atStart => exact ⟨0, Nat.zero_le _, rfl, gb_refl _ _, Lib.hid (fun i hi => by omega)⟩
  case round =>
    obtain ⟨j, hj, rfl, HG, HN⟩ := hrel
    by_cases hlt : j < m
    · obtain ⟨g, off, rfl, hgl, c0⟩ := sat_cell (HS.out.kept HG.out) (j := j) (by rw [HM.out]; exact hlt)
      have y1 : (0 : Int) ≤ (j : Int) := by omega
      have y2 : (j : Int) < (m : Int) := by omega
      have y3 : decide (j < m) = true := decide_eq_true hlt
      have y4 : decide ((j : Int) < (m : Int)) = true := decide_eq_true y2
      obtain ⟨z, hz⟩ : ∃ z : ByteArray, (⟨(l.getD j []).toArray⟩ : ByteArray) = z := ⟨_, rfl⟩
      have hzl : z.toList = l.getD j [] := by rw [toList_data, ← hz]
      rw [hz] at c0
      clear hz
      by_cases he : l.getD j [] = x
      · have q0 : (z.toList == y.toList) = true := by rw [hzl, HY.out, he]; exact beq_self_eq_true _
        have HE : Hid (x ∈ l) := Lib.hid (mem_getD.2 ⟨j, by rw [HM.out]; exact hlt, he⟩)
        clear he hzl
        go_wp2_with fail
        go_ret
        exact ret_bp HG.out ⟨fun _ => HE.out, fun _ => rfl⟩
      · have q0 : (z.toList == y.toList) = false := by rw [hzl, HY.out]; exact beq_eq_false_iff_ne.2 he
        have HN2 : Hid (∀ i, i < j + 1 → l.getD i [] ≠ x) := Lib.hid (fun i hi => by
          rcases Nat.lt_or_ge i j with h1 | h1
          · exact HN.out i h1
          · obtain rfl : i = j := by omega
            exact he)
        clear he hzl HN
        go_wp2_with fail
        go_roundw
        case rel => exact ⟨j + 1, by omega, by go_num, HG, HN2⟩
        case measure => simp [intOf]; omega
    · obtain rfl : j = m := by omega
      go_wp2_with fail
      go_ret
      exact ret_false HG.out (fun h => by
        obtain ⟨i, hi, e⟩ := mem_getD.1 h
        exact HN.out i (by rw [← HM.out]; exact hi) e)
end Go.Proofs.YtmlcpihedmmlfaaGreatDoor
namespace Go.Proofs.YtmlcpihedmmlfaaGreatDoor
open Go.RowKit

mutual
/-- How many expressions an expression is made of. -/
def sizE : Ex → Nat
  | .mk _ _ _ _ _ ks _ => 1 + sizK ks
def sizK : List Ex → Nat
  | [] => 0
  | k :: l => sizE k + sizK l
end
def stS (n : Nat) (_ : Ex) (d : Nat) : Nat := if d = 0 then n + 1 else n
mutual
theorem runE_S : ∀ (x : Ex) (n : Nat), runE stS x n = n + sizE x
  | .mk op nm md nu ys ks ps, n => by
    simp only [runE, sizE]
    rw [show stS n (.mk op nm md nu ys ks ps) 0 = n + 1 from rfl, runK_S _ 0 ks]; omega
theorem runK_S (x : Ex) : ∀ (j : Nat) (l : List Ex) (n : Nat), runK stS x j l n = n + sizK l
  | j, [], n => by simp [runK, sizK]
  | j, k :: l, n => by
    simp only [runK, sizK]
    rw [runE_S k, show stS (n + sizE k) x (j + 1) = n + sizE k from rfl, runK_S x (j + 1) l]; omega
end
def PS (b n : Nat) (w : World) : Prop := w.heap[b]? = some (.cells #[.int .i64 (n : Int)] 3 (0, 0))
def LS (n : Nat) : Prop := n ≤ 1000000

theorem PS.set {b n : Nat} {w : World} (h : PS b n w) (m : Nat) : PS b m (w.setCell ⟨b, 0, none⟩ (.int .i64 (m : Int))) := by
  unfold PS at h ⊢
  simp only [World.setCell, Array.getElem?_modify, h]; simp

set_option maxRecDepth 100000 in
set_option maxHeartbeats 16000000 in
theorem size1_c (b : Nat) (n : Nat) (d : Nat) (av : Value) (w : World) (hp : PS b n w) (hl : LS (if d = 0 then n + 1 else n)) :
    Calls Tryz.prog 56 #[av, .int .i64 (d : Int), .pointer (some ⟨b, 0, none⟩)] w (fun e w' => e = .returned (.tuple #[]) ∧ PS b (if d = 0 then n + 1 else n) w' ∧ Below b w w' ∧ OKept b w w') := by
  have hbl := hlt' hp
  have c0 : w.cell? ⟨b, 0, none⟩ = some (.int .i64 (n : Int)) := by unfold World.cell?; unfold PS at hp; simp [hp]
  have hfz : w.frozen? ⟨b, 0, none⟩ = false := by unfold PS at hp; simp [World.frozen?, hp]
  go_enter Tryz.func56, Tryz.ntmps56
  by_cases h0 : d = 0
  · have e1 : ((d : Int) == 0) = true := by rw [h0]; rfl
    have e1' : (d == 0) = true := by rw [h0]; rfl
    rw [if_pos h0] at hl ⊢
    have hw1 : IntKind.i64.wrap ((n : Int) + 1) = ((n + 1 : Nat) : Int) := by unfold LS at hl; rw [IntWalk.i64_in _ (by omega)]; omega
    clear h0
    go_wp2_with fail
    refine bodyPost_end (results_none rfl _ _ _) rfl ?_
    exact ⟨rfl, hp.set (n + 1), (Below.refl b w).setCell (Nat.le_refl _) _, fun g cs T h1 _ h3 => by rw [Below.heap_setCell _ _ _ _ (by exact h3)]; exact h1⟩
  · have e1 : ((d : Int) == 0) = false := beq_eq_false_iff_ne.2 (by omega)
    have e1' : (d == 0) = false := beq_eq_false_iff_ne.2 h0
    rw [if_neg h0] at hl ⊢
    clear h0
    go_wp2_with fail
    refine bodyPost_end (results_none rfl _ _ _) rfl ?_
    exact ⟨rfl, hp, Below.refl b w, fun _ _ _ h _ _ => h⟩

theorem tellS (F : Nat → Prop) (B : Nat) (hF : ∀ k, F k → k < B) : Tell stS 56 B B F (PS B) LS (fun _ => True) where
  below := hF
  box := Nat.le_refl _
  tell := fun s f w hp _ hx hd hq hl => size1_c B s f.d _ w hp hl
  mono := fun s x d h => by unfold LS stS at h; unfold LS; split at h <;> omega
  kids := fun _ _ _ _ => trivial
  grown := fun s w w' h hg => by unfold PS at h ⊢; exact bx hg h
  placed := fun s w w' g cs h hg hc hne => by unfold PS at h ⊢; rw [hg.block B (hlt' h) (fun e => hne (by injection e with e; exact e.symm))]; exact h

set_option maxRecDepth 100000 in
set_option maxHeartbeats 16000000 in
theorem Size_c (F : Nat → Prop) (x : Ex) (q : List Value) (w : World) (hx : EAt F w x q) (hc : cntE x ≤ 1000000) (hD : sizE x ≤ 1000000) :
    Calls Tryz.prog 29 #[.agg q.toArray] w (fun e w' => e = .returned (.int .i64 (sizE x : Int)) ∧ w.grownBy w' none) := by
  have hb := hx.box
  have HC := Lib.hid hc; have HD := Lib.hid hD
  obtain ⟨v0, v1, v2, v3, v4, v5, v6, v7, rfl⟩ : ∃ v0 v1 v2 v3 v4 v5 v6 v7, q = [v0, v1, v2, v3, v4, v5, v6, v7] := by
    have := hx.len
    match q, this with
    | [v0, v1, v2, v3, v4, v5, v6, v7], _ => exact ⟨_, _, _, _, _, _, _, _, rfl⟩
  have hA := World.grownBy_alloc w (.cells #[v0, v1, v2, v3, v4, v5, v6, v7] 60) none
  obtain ⟨n, hn⟩ : ∃ n, sizE x = n := ⟨_, rfl⟩
  rw [hn]
  have HN := Lib.hid hn
  clear hx hc hD hn
  go_enter Tryz.func29, Tryz.ntmps29
  go_wp2_with fail
  change PAtE _ (w.alloc (.cells #[v0, v1, v2, v3, v4, v5, v6, v7] 60)) _ _ _ at hb
  obtain ⟨b, hbb⟩ : ∃ b, w.heap.size = b := ⟨_, rfl⟩
  have hsz : (w.alloc (.cells #[v0, v1, v2, v3, v4, v5, v6, v7] 60)).heap.size = b + 1 := by simp [hbb]
  generalize (w.alloc (.cells #[v0, v1, v2, v3, v4, v5, v6, v7] 60)) = WA at *
  have hbl : PS (b + 1) 0 (WA.alloc (.cells #[.int .i64 0] 3)) := by unfold PS; rw [← hsz]; exact heap_alloc_new WA _
  have hgB := World.grownBy_alloc WA (.cells #[.int .i64 0] 3) none
  have hsB : (WA.alloc (.cells #[.int .i64 0] 3)).heap.size = b + 2 := by simp [hsz]
  generalize (WA.alloc (.cells #[.int .i64 0] 3)) = WB at *
  rw [hbb] at hb ⊢
  have hb2 := (hb.same (S := fun _ => False) (Fr2.none hgB) (fun _ _ h => h))
  have HW := Lib.hid (walkS_c stS (b + 1) (b + 1) _ (PS (b + 1)) LS (fun _ => True) (tellS (fun k => k ≤ b) (b + 1) (fun k hk => by omega)) x b 0 0 WB hbl hb2 (by omega) HC.out (by rw [runE_S, Nat.zero_add]; exact HD.out) trivial)
  have HG : Hid (w.grownBy WB none) := Lib.hid (gb_trans hA hgB)
  have HB1 : Hid (w.heap.size = b) := Lib.hid hbb
  clear hb hb2 hbl hsB hgB hsz hA hbb
  refine HW.out.mono ?_
  rintro e W3 ⟨rfl, hp3, hbe3⟩
  rw [runE_S, Nat.zero_add] at hp3
  rw [HN.out] at hp3
  have hbl := hlt' hp3
  have c0 : W3.cell? ⟨b + 1, 0, none⟩ = some (.int .i64 (n : Int)) := by unfold World.cell?; unfold PS at hp3; simp [hp3]
  have HG7 : Hid (w.grownBy W3 none) := Lib.hid (below_gb (Below.mono (Below.trans2 (Below.gb HG.out (by rw [HB1.out]; exact Nat.le_refl _)) (hbe3.mono (by omega))) (by rw [HB1.out]; exact Nat.le_refl _)))
  clear hbe3 HW hp3
  go_wp2_with fail
  go_ret
  exact ⟨rfl, HG7.out⟩
end Go.Proofs.YtmlcpihedmmlfaaGreatDoor
namespace Go.Proofs.YtmlcpihedmmlfaaGreatDoor
open Go.RowKit

def wholeI (l : List TokI) : List UInt8 := l.flatMap fun t => t.lead ++ t.text

theorem wholeI_append (l r : List TokI) : wholeI (l ++ r) = wholeI l ++ wholeI r := by unfold wholeI; rw [List.flatMap_append]
theorem wholeI_next {l : List TokI} {k : Nat} {t : TokI} (h : l[k]? = some t) : wholeI (l.take (k + 1)) = wholeI (l.take k) ++ t.lead ++ t.text := by
  rw [List.take_add_one, h, wholeI_append]; simp [wholeI]
theorem wholeI_take (l : List TokI) (k : Nat) : (wholeI (l.take k)).length ≤ (wholeI l).length := by
  have h1 : wholeI l = wholeI (l.take k) ++ wholeI (l.drop k) := by rw [← wholeI_append, List.take_append_drop]
  rw [h1, List.length_append]; omega

set_option maxRecDepth 100000 in
set_option maxHeartbeats 8000000 in
theorem WholeI_c (q : Option Addr) (c : Nat) (l : List TokI) (w : World) (hl : l.length ≤ 1000000) (hL : (wholeI l).length ≤ 1000000) (h : ToksAt w q l) : Calls Tryz.prog 46 #[.slice q l.length c] w (StrGb (wholeI l) w) := by
  obtain ⟨m, hm⟩ : ∃ m, l.length = m := ⟨_, rfl⟩
  have HM := Lib.hid hm; have HA := Lib.hid h; have HL := Lib.hid hL
  rw [hm] at hl ⊢
  clear hm h hL
  go_enter Tryz.func46, Tryz.ntmps46
  go_wp2_with fail
  have hbl := bld_new w w.heap.size (Nat.le_refl _)
  have hga := World.grownBy_alloc w (.cells #[.pointer none, .slice none 0 0] 101) none
  generalize (w.alloc (.cells #[.pointer none, .slice none 0 0] 101)) = W at *
  obtain ⟨b, hb⟩ : ∃ b, w.heap.size = b := ⟨_, rfl⟩
  have HBB := Lib.hid hb
  rw [hb] at hbl ⊢
  have HBL := Lib.hid hbl; have HGA := Lib.hid hga
  clear hbl hga hb
  go_loopw [8] (fun i wr => ∃ k : Nat, k ≤ m ∧ i = .int .i64 k ∧ Hid (Lib.IsBuilder 101 5 b b (Lib.byteCells (wholeI (l.take k))) wr) ∧ Hid (w.grownBy wr none)) (fun i _ => m - (intOf i).toNat)
  case atStart => exact ⟨0, Nat.zero_le _, rfl, HBL, HGA⟩
  case round =>
    clear HBL HGA
    obtain ⟨k, hk, rfl, HBL, HG⟩ := hrel
    by_cases hlt : k < m
    · have d1 : decide ((k : Int) < (m : Int)) = true := decide_eq_true (by omega)
      have d1' : decide (k < m) = true := decide_eq_true hlt
      obtain ⟨t, ht⟩ : ∃ t, l[k]? = some t := ⟨l[k]'(by rw [HM.out]; exact hlt), List.getElem?_eq_getElem _⟩
      obtain ⟨g, off, rfl, hgl, c0, c1, c2, c3⟩ := tok_at HA.out ht
      have c0 := HG.out.cell c0 (by simp)
      have c1 := HG.out.cell c1 (by simp)
      have c2 := HG.out.cell c2 (by simp)
      have c3 := HG.out.cell c3 (by simp)
      have hnx := wholeI_next ht
      have hle1 := wholeI_take l k
      have hle2 := wholeI_take l (k + 1)
      have hL := HL.out
      rw [hnx] at hle2
      simp only [List.length_append] at hle2
      obtain ⟨x, hx⟩ : ∃ x : ByteArray, (⟨t.lead.toArray⟩ : ByteArray) = x := ⟨_, rfl⟩
      obtain ⟨y, hy⟩ : ∃ y : ByteArray, (⟨t.text.toArray⟩ : ByteArray) = y := ⟨_, rfl⟩
      have hxl : x.data.toList = t.lead := by rw [← hx]
      have hyl : y.data.toList = t.text := by rw [← hy]
      have hxs : x.size = t.lead.length := by rw [← list_len, hxl]
      have hys : y.size = t.text.length := by rw [← list_len, hyl]
      unfold strV at c1 c2
      rw [hx] at c1
      rw [hy] at c2
      have HNX : Hid (Lib.byteCells (wholeI (l.take (k + 1))) = Lib.byteCells (wholeI (l.take k)) ++ Lib.strCells x ++ Lib.strCells y) := Lib.hid (by
        rw [hnx, Lib.byteCells_append, Lib.byteCells_append, ← strCells_mk t.lead, ← strCells_mk t.text, hx, hy])
      have HZ1 : Hid ((Lib.byteCells (wholeI (l.take k))).length + x.size ≤ 140737488355328) := Lib.hid (by rw [Lib.byteCells_length]; omega)
      have HZ2 : Hid ((Lib.byteCells (wholeI (l.take k)) ++ Lib.strCells x).length + y.size ≤ 140737488355328) := Lib.hid (by rw [List.length_append, Lib.byteCells_length, Lib.strCells_length]; omega)
      have HBX := Lib.hid (heap_alloc_new wr (.cells #[.int .i64 t.kind, .string x, .string y, .int .i64 t.pos] 96))
      have hga := World.grownBy_alloc wr (.cells #[.int .i64 t.kind, .string x, .string y, .int .i64 t.pos] 96) none
      have HB2 := Lib.hid (bld_kept HBL.out hga)
      have HG2 := Lib.hid (gb_trans HG.out hga)
      have HXS : Hid (b < wr.heap.size) := Lib.hid (by
        rcases HBL.out with h | h
        · exact h.lt
        · exact h.lt)
      obtain ⟨b0, b1, b2, b3, b4⟩ := cells4 HBX.out
      generalize t.kind = tk at *
      generalize t.pos = tp at *
      clear hgl ht hnx hle1 hle2 hL hx hy hxl hyl hxs hys hga HBL HG b4
      go_wp2_with fail
      refine (WriteString_c b b _ x _ HB2.out HZ1.out (by have := HG2.out.size; rw [HBB.out] at this; exact this)).mono ?_
      rintro e w2 ⟨rfl, ⟨hb2, hbe2⟩, hok2⟩
      have HB3 := Lib.hid hb2
      have hgg : w.grownBy w2 none := below_gb (Below.trans2 (gb_below HG2.out) (by rw [HBB.out]; exact hbe2))
      have HG3 := Lib.hid hgg
      have hbx2 := hok2 _ _ _ HBX.out (by decide) (by have := HXS.out; omega)
      obtain ⟨e0, e1, e2, e3, e4⟩ := cells4 hbx2
      clear hb2 hbe2 hok2 hgg hbx2 b0 b1 b2 b3 c0 c1 c2 c3 HB2 e4
      go_wp2_with fail
      refine (WriteString_c b b _ y _ (.inr HB3.out) HZ2.out (by have := HG3.out.size; rw [HBB.out] at this; exact this)).mono ?_
      rintro e w3 ⟨rfl, ⟨hb3, hbe3⟩, -⟩
      rw [← HNX.out] at hb3
      have HB4 : Hid (Lib.IsBuilder 101 5 b b (Lib.byteCells (wholeI (l.take (k + 1)))) w3) := Lib.hid (.inr hb3)
      have hgg : w.grownBy w3 none := below_gb (Below.trans2 (gb_below HG3.out) (by rw [HBB.out]; exact hbe3))
      have HG4 := Lib.hid hgg
      clear hb3 hbe3 hgg HB3 HG2 HG3 e0 e1 e2 e3
      go_wp2_with fail
      go_roundw
      case rel => exact ⟨k + 1, by omega, by go_num, HB4, HG4⟩
      case measure => (simp [intOf] <;> omega)
    · obtain rfl : k = m := by omega
      rw [List.take_of_length_le (by rw [HM.out]; exact Nat.le_refl _)] at HBL
      have HSTR := Lib.hid (Tryz.Builder_String_any_k b b _ wr (Lib.IsBuilderF.of HBL.out) (by have := HG.out.size; rw [HBB.out] at this; exact this))
      go_wp2_with fail
      refine HSTR.out.mono ?_
      rintro e w7 ⟨rfl, -, hbe7, -⟩
      have HG7 : Hid (w.grownBy w7 none) := Lib.hid (below_gb (Below.trans2 (gb_below HG.out) (by rw [HBB.out]; exact hbe7)))
      clear hbe7
      go_wp2_with fail
      go_ret
      exact ⟨⟨_, rfl, rfl⟩, HG7.out⟩
set_option maxRecDepth 100000 in
set_option maxHeartbeats 4000000 in
theorem ShowI_c (l : List TokI) (pt pn : Option Addr) (ct M cn : Nat) (w : World) (hl : l.length ≤ 1000000) (hL : (wholeI l).length ≤ 1000000) (h : ToksAt w pt l) :
    Calls Tryz.prog 22 #[.agg #[.slice pt l.length ct, .slice pn M cn]] w (StrGb (wholeI l) w) := by
  have HWH := Lib.hid (fun W (h : ToksAt W pt l) => WholeI_c pt ct l W hl hL h)
  have HT := Lib.hid h
  obtain ⟨m, hm⟩ : ∃ m, l.length = m := ⟨_, rfl⟩
  rw [hm] at HWH ⊢
  clear hm h hl hL
  go_enter Tryz.func22, Tryz.ntmps22
  go_wp2_with fail
  have hgA := World.grownBy_alloc w (.cells #[.slice pt m ct, .slice pn M cn] 26) none
  refine (HWH.out _ (HT.out.kept hgA)).mono ?_
  rintro e w1 ⟨⟨s, rfl, hs⟩, hg⟩
  have HS := Lib.hid hs
  have HG := Lib.hid (gb_trans hgA hg)
  clear hgA hg hs
  go_wp2_with fail
  go_ret
  exact ⟨⟨s, rfl, HS.out⟩, HG.out⟩
theorem wholeI_toI (l : List Tok) : wholeI (l.map toI) = wholeL l := by unfold wholeI wholeL; rw [List.flatMap_map]; rfl
end Go.Proofs.YtmlcpihedmmlfaaGreatDoor
namespace Go.Proofs.YtmlcpihedmmlfaaGreatDoor
open Go.RowKit

def FarK (N : List Nd) (K : Kf) (A : Nat → Prop) : Prop := ∀ (i : Nat) (x : Nd), N[i]? = some x → x.kids ≠ [] → ∀ a, (K i).1 = some a → A a.block
def FarV (w : World) (b : Nat) (l : List Tok) (u : Nat) (N : List Nd) (vn : Value) (A : Nat → Prop) : Prop := ∃ pt ct K, Bld w b pt ct l u vn N K ∧ FarK N K A
theorem FarV.bld {w : World} {b : Nat} {l : List Tok} {u : Nat} {N : List Nd} {vn : Value} {A : Nat → Prop} (h : FarV w b l u N vn A) : BldV w b l u N vn := by
  obtain ⟨pt, ct, K, h, -⟩ := h
  exact ⟨pt, ct, K, h⟩
theorem FarV.kept {w w' : World} {b : Nat} {l : List Tok} {u : Nat} {N : List Nd} {vn : Value} {A : Nat → Prop} (h : FarV w b l u N vn A) (hg : w.grownBy w' none) : FarV w' b l u N vn A := by
  obtain ⟨pt, ct, K, h, hf⟩ := h
  exact ⟨pt, ct, K, h.kept hg, hf⟩
/-- Beside turns of blocks that are far from it; the blocks to be far from may then be others. -/
theorem FarV.keptF {S : Nat → Prop} {w w' : World} {b : Nat} {l : List Tok} {u : Nat} {N : List Nd} {vn : Value} {A A' : Nat → Prop} (h : FarV w b l u N vn A) (hf : Fr2 S w w') (hS : ∀ k, k ≤ b → ¬ S k) (hv : ∀ k, vn.ownBlock = some k → ¬ S k) (hA : ∀ k, A k → ¬ S k) (hA' : ∀ k, k < w.heap.size → A k → A' k) : FarV w' b l u N vn A' := by
  obtain ⟨pt, ct, K, h, hk⟩ := h
  exact ⟨pt, ct, K, h.keptF hf hS hv fun i x hx hn a ha => hA _ (hk i x hx hn a ha), fun i x hx hn a ha => hA' _ (h.khi i x hx hn a ha).2.1 (hk i x hx hn a ha)⟩

def AddFar (w : World) (b : Nat) (l : List Tok) (u : Nat) (N : List Nd) (x : Nd) (vn : Value) (A : Nat → Prop) (e : Ending) (w' : World) : Prop :=
  e = .returned (.int .i64 (N.length : Int)) ∧ ∃ vn', FarV w' b l u (N ++ [x]) vn' A ∧ Fr2 (Turn b vn) w w' ∧ ∀ k, vn'.ownBlock = some k → vn.ownBlock = some k ∨ w.heap.size ≤ k

theorem AddFar.after {w w1 : World} {b : Nat} {l : List Tok} {u : Nat} {N : List Nd} {x : Nd} {vn : Value} {A : Nat → Prop} {e : Ending} {w' : World} (h : AddFar w1 b l u N x vn A e w') (hf : Fr2 (Turn b vn) w w1) : AddFar w b l u N x vn A e w' := by
  obtain ⟨he, vn', h1, h2, h3⟩ := h
  exact ⟨he, vn', h1, hf.trans h2, fun k hk => (h3 k hk).imp id fun h => Nat.le_trans hf.size h⟩

/-- A node more. -/
theorem Bld.addF {A : Nat → Prop} {w w5 : World} {b : Nat} {pt : Option Addr} {ct : Nat} {l : List Tok} {u u' : Nat} {vn : Value} {N : List Nd} {K : Kf} (h : Bld w b pt ct l u vn N K) (hf : Fr2 (Turn b vn) w w5) {g9 n9 cap9 : Nat} (hbox : w5.heap[b]? = some (.cells #[.slice pt l.length ct, .int .i64 (u' : Int), .slice (some ⟨g9, 0, none⟩) n9 cap9] 161 (0, 0)))
    {x : Nd} {p : Option Addr} {c : Nat} (hown : OwnG 3 97 w5 (b + 1) (.slice (some ⟨g9, 0, none⟩) n9 cap9) (ndsV K N ++ [[.int .i64 x.kind, .int .i64 x.tok, .slice p x.kids.length c]])) (hk : VAt w p (intsV x.kids)) (hkb : x.kids ≠ [] → ∀ a, p = some a → b < a.block ∧ vn.ownBlock ≠ some a.block)
    (hl9 : vn.ownBlock = some g9 ∨ w.heap.size ≤ g9) (hFK : FarK N K A) (hpA : x.kids ≠ [] → ∀ a, p = some a → A a.block) : FarV w5 b l u' (N ++ [x]) (.slice (some ⟨g9, 0, none⟩) n9 cap9) A := by
  obtain ⟨K', hK1, hK2⟩ := kf_snoc K N.length p c
  have hkn : ∀ (i : Nat) (y : Nd), (N ++ [x])[i]? = some y → (i < N.length ∧ N[i]? = some y ∧ K' i = K i) ∨ (i = N.length ∧ y = x ∧ K' i = (p, c)) := fun i y hy => by
    by_cases hi : i < N.length
    · rw [List.getElem?_append_left hi] at hy; exact .inl ⟨hi, hy, hK2 i (by omega)⟩
    · have h1 := (List.getElem?_eq_some_iff.1 hy).1
      rw [List.length_append, List.length_singleton] at h1
      obtain rfl : i = N.length := by omega
      rw [List.getElem?_append_right (Nat.le_refl _)] at hy
      simp at hy
      exact .inr ⟨rfl, hy.symm, hK1⟩
  refine ⟨pt, ct, K', ⟨hbox, h.cap, h.toks.keptF hf (fun h0 a ha => ?_), h.tlow, by rw [ndsV_snoc hK1 hK2]; exact hown, fun i y hy => ?_, fun i y hy hn a ha => ?_⟩, fun i y hy hn a ha => ?_⟩
  · have h1 := h.tlow h0 a ha
    rintro (e | e)
    · omega
    · have := (h.turn _ e).1; omega
  · rcases hkn i y hy with ⟨-, hy, e⟩ | ⟨-, rfl, e⟩
    · rw [e]
      refine (h.kids i y hy).keptF hf fun h0 a ha => ?_
      obtain ⟨h1, h2, h3⟩ := h.khi i y hy (intsV_ne h0) a ha
      rintro (e | e)
      · omega
      · exact h3 e
    · rw [e]
      refine hk.keptF hf fun h0 a ha => ?_
      obtain ⟨h1, h3⟩ := hkb (intsV_ne h0) a ha
      rintro (e | e)
      · omega
      · exact h3 e
  · have hx9 : ∀ k, (Value.slice (some ⟨g9, 0, none⟩) n9 cap9).ownBlock = some k → g9 = k := fun k e => by simpa [Value.ownBlock] using e
    rcases hkn i y hy with ⟨-, hy, e⟩ | ⟨-, rfl, e⟩
    · rw [e] at ha
      obtain ⟨h1, h2, h3⟩ := h.khi i y hy hn a ha
      refine ⟨h1, Nat.lt_of_lt_of_le h2 hf.size, fun e9 => ?_⟩
      have := hx9 _ e9
      subst this
      rcases hl9 with h | h
      · exact h3 h
      · omega
    · rw [e] at ha
      obtain ⟨h1, h3⟩ := hkb hn a ha
      have h2 := hk.lt (ne_intsV hn) a ha
      refine ⟨h1, Nat.lt_of_lt_of_le h2 hf.size, fun e9 => ?_⟩
      have := hx9 _ e9
      subst this
      rcases hl9 with h | h
      · exact h3 h
      · omega
  · rcases hkn i y hy with ⟨-, hy, e⟩ | ⟨-, rfl, e⟩
    · rw [e] at ha; exact hFK i y hy hn a ha
    · rw [e] at ha; exact hpA hn a ha

set_option maxRecDepth 100000 in
set_option maxHeartbeats 8000000 in
theorem add_far (A : Nat → Prop) (b : Nat) (l : List Tok) (u : Nat) (N : List Nd) (vn : Value) (x : Nd) (p : Option Addr) (c : Nat) (w : World) (hN : N.length ≤ 100000) (h : FarV w b l u N vn A) (hk : VAt w p (intsV x.kids)) (hkb : x.kids ≠ [] → ∀ a, p = some a → b < a.block ∧ vn.ownBlock ≠ some a.block) (hpA : x.kids ≠ [] → ∀ a, p = some a → A a.block) :
    Calls Tryz.prog 102 #[.pointer (some ⟨b, 0, none⟩), .agg #[.int .i64 x.kind, .int .i64 x.tok, .slice p x.kids.length c]] w (AddFar w b l u N x vn A) := by
  obtain ⟨pt, ct, K, h, hFK⟩ := h
  have HFK := Lib.hid hFK; have HPA := Lib.hid hpA; have H := Lib.hid h; have HK := Lib.hid hk; have HKB := Lib.hid hkb
  obtain ⟨pv, cv, e1, -, hcv, -⟩ := h.own.is
  rw [nds_len] at e1 hcv
  subst e1
  obtain ⟨B, hB⟩ : ∃ B, w.heap.size = B := ⟨_, rfl⟩
  have HBW := Lib.hid hB
  have hbB : b < B := by rw [← hB]; exact hlt' h.box
  have HOWN := Lib.hid h.own
  have HLE : Hid ((ndsV K N).length ≤ 1000000) := Lib.hid (by rw [nds_len]; omega)
  have HNL : Hid ((ndsV K N).length = N.length) := Lib.hid (nds_len K N)
  obtain ⟨m, hm⟩ : ∃ m, l.length = m := ⟨_, rfl⟩
  obtain ⟨M, hM⟩ : ∃ M, N.length = M := ⟨_, rfl⟩
  have HML := Lib.hid hM
  have HLL := Lib.hid hm
  obtain ⟨kl, hkl⟩ : ∃ kl, x.kids.length = kl := ⟨_, rfl⟩
  have HKL := Lib.hid hkl
  rw [hM] at HOWN
  obtain ⟨xk, hxk⟩ : ∃ xk, x.kind = xk := ⟨_, rfl⟩
  obtain ⟨xt, hxt⟩ : ∃ xt, x.tok = xt := ⟨_, rfl⟩
  have HXK := Lib.hid hxk; have HXT := Lib.hid hxt
  have hbox := h.box
  rw [hm, hM] at hbox
  rw [hxk, hxt, hkl]
  have hA := heap_alloc_new w (.cells #[.int .i64 xk, .int .i64 xt, .slice p kl c] 97)
  have hgA := World.grownBy_alloc w (.cells #[.int .i64 xk, .int .i64 xt, .slice p kl c] 97) none
  have hsA : (w.alloc (.cells #[.int .i64 xk, .int .i64 xt, .slice p kl c] 97)).heap.size = B + 1 := by simp [hB]
  obtain ⟨d0, d1, d2, d3⟩ := cells3' (bx hgA hbox)
  have HBX := Lib.hid hbox
  rw [hB] at hA
  obtain ⟨a0, a1, a2, a3⟩ := cells3' hA
  clear hFK hpA hbox hm hM hkl hxk hxt h hk hkb hcv
  go_enter Tryz.func102, Tryz.ntmps102
  go_wp2_with fail
  try rw [hB]
  generalize (w.alloc (.cells #[.int .i64 xk, .int .i64 xt, .slice p kl c] 97)) = W at *
  have HOW := Lib.hid (OwnG.kept HOWN.out hgA)
  have HGA := Lib.hid hgA
  have hnew := heap_alloc_new W (.cells #[.int .i64 xk, .int .i64 xt, .slice p kl c] 97)
  rw [hsA] at hnew
  have HNEW := Lib.hid hnew
  have HBX2 := Lib.hid (bx (World.grownBy_alloc W (.cells #[.int .i64 xk, .int .i64 xt, .slice p kl c] 97) none) (bx hgA HBX.out))
  have hoa : ∀ k, (Value.slice pv M cv).ownBlock = some k → b + 1 ≤ k ∧ k < B + 1 := fun k e => by
    obtain ⟨h1, h2⟩ := OwnG.at HOW.out k e
    omega
  have HOA := Lib.hid hoa
  clear hA hgA hB hnew hoa
  go_region_law (refine step_appGl (s := 3) (t := 24) (T := 97) (by decide) Tryz.underlying24 infoTN rfl (by omega) rfl _ _ rfl (b + 1) (ndsV K N) [.int .i64 xk, .int .i64 xt, .slice p kl c] rfl (fun u hu => by simp at hu; rcases hu with rfl | rfl | rfl <;> rfl) (.slice pv M cv) rfl (OwnG.kept HOW.out (by repeat (first | with_reducible exact gb_refl _ _ | with_reducible refine gb_drew ?_ | with_reducible refine gb_alloc ?_ _))) (B + 1) _ rfl (by exact HNEW.out) rfl HLE.out (by simp; omega) (B + 2) (by simp; omega) ?_; intro g9 cap9 w9 hO9 hg9 hl9; have hb9 := (hg9.block b (by simp; omega) (fun e => by have := (HOA.out b e.symm).1; omega)).trans HBX2.out; obtain ⟨f0, f1, f2, f3⟩ := cells3' hb9; have HB9 := Lib.hid hb9; have HO9 := Lib.hid hO9; have HG9 := Lib.hid hg9; have HL9 := Lib.hid hl9; clear hO9 hg9 hl9 hb9)
  all_goals
    rw [HNL.out, HML.out] at HO9 ⊢
    have HF9 : Hid (Fr2 (Turn b (.slice pv M cv)) w w9) := Lib.hid (Fr2.trans (b := (W.alloc (.cells #[.int .i64 xk, .int .i64 xt, .slice p kl c] 97)).drew) (Fr2.none (gb_trans HGA.out (gb_drew (gb_alloc (gb_refl _ _) _)))) (Fr2.of (S := Turn b (.slice pv M cv)) HG9.out (fun k e => Or.inr e)))
    have HF10 := Lib.hid (HF9.out.setCell (g := b) (j := 2) (.inl rfl) (.slice (some ⟨g9, 0, none⟩) (M + 1) cap9))
    have HB10 := Lib.hid (show (w9.setCell ⟨b, 2, none⟩ (.slice (some ⟨g9, 0, none⟩) (M + 1) cap9)).heap[b]? = some (.cells #[.slice pt m ct, .int .i64 (u : Int), .slice (some ⟨g9, 0, none⟩) (M + 1) cap9] 161 (0, 0)) from set_cells (i := 2) HB9.out)
    have HO10 := Lib.hid (OwnG.keptF HO9.out (Fr2.setCell (S := fun k => k = b) (Fr2.refl _ w9) (g := b) (j := 2) rfl (.slice (some ⟨g9, 0, none⟩) (M + 1) cap9)) (fun k e => by have := (OwnG.at HO9.out k e).1; omega))
    obtain ⟨W5, hW5⟩ : ∃ W5, (w9.setCell ⟨b, 2, none⟩ (.slice (some ⟨g9, 0, none⟩) (M + 1) cap9)) = W5 := ⟨_, rfl⟩
    rw [hW5] at HF10 HB10 HO10 ⊢
    clear HF9 HB9 HO9 hW5 d0 d1 d2 d3 f0 f1 f2 f3 a0 a1 a2 a3 HG9
    obtain ⟨f0, f1, f2, f3⟩ := cells3' HB10.out
    have hw1 : IntKind.i64.wrap (M : Int) = (M : Int) := IntWalk.i64_in _ (by have := HML.out; omega)
    have hw2 : IntKind.i64.wrap (((M + 1 : Nat) : Int) - 1) = (M : Int) := by rw [show (((M + 1 : Nat) : Int) - 1) = (M : Int) by omega]; exact hw1
    go_wp2_with fail
    go_ret
    refine ⟨by rw [HML.out]; rfl, _, Bld.addF H.out (by rw [HML.out]; exact HF10.out) (by rw [HLL.out]; exact HB10.out) (by rw [HXK.out, HXT.out, HKL.out]; exact HO10.out) HK.out HKB.out (by rw [HML.out, HBW.out]; exact HL9.out.imp id (fun h => by omega)) HFK.out HPA.out, by rw [HML.out]; exact HF10.out, fun k e => ?_⟩
    have h1 : g9 = k := by simpa [Value.ownBlock] using e
    subst h1
    rw [HML.out, HBW.out]
    exact HL9.out.imp id (fun h => by omega)
set_option maxRecDepth 100000 in
set_option maxHeartbeats 8000000 in
theorem Leaf_far (A : Nat → Prop) (b : Nat) (l : List Tok) (u : Nat) (N : List Nd) (vn : Value) (w : World) (hl : l.length ≤ 100000) (hu : u < l.length) (hN : N.length ≤ 100000) (h : FarV w b l u N vn A) :
    Calls Tryz.prog 138 #[.pointer (some ⟨b, 0, none⟩)] w (AddFar w b l (u + 1) N ⟨19, (u : Int), []⟩ vn A) := by
  obtain ⟨pt, ct, K, h, hFK⟩ := h
  have hbox := h.box
  have HADD := Lib.hid (fun W (h : FarV W b l (u + 1) N vn A) => add_far A b l (u + 1) N vn ⟨19, (u : Int), []⟩ none 0 W hN h (.inl rfl) (fun h => absurd rfl h) (fun h => absurd rfl h))
  obtain ⟨pv, cv, e1, -, -, -⟩ := h.own.is
  have HH := Lib.hid h
  obtain ⟨m, hm⟩ : ∃ m, l.length = m := ⟨_, rfl⟩
  rw [hm] at hbox hu hl
  have HP : Hid (∀ W e w', Fr2 (Turn b vn) w W → AddFar W b l (u + 1) N ⟨19, (u : Int), []⟩ vn A e w' → AddFar w b l (u + 1) N ⟨19, (u : Int), []⟩ vn A e w') := Lib.hid (fun _ _ _ h1 h2 => h2.after h1)
  have HF : Hid (∀ W, w.grownBy W none → Fr2 (Turn b vn) w (W.setCell ⟨b, 1, none⟩ (.int .i64 ((u + 1 : Nat) : Int))) ∧ FarV (W.setCell ⟨b, 1, none⟩ (.int .i64 ((u + 1 : Nat) : Int))) b l (u + 1) N vn A) := Lib.hid (fun W hg => ⟨(Fr2.none hg).setCell (g := b) (j := 1) (.inl rfl) _, pt, ct, K, (HH.out.kept hg).setUsed (u + 1), hFK⟩)
  obtain ⟨d0, d1, d2, d3⟩ := cells3' hbox
  have e1 : ((u : Int) == (m : Int)) = false := beq_eq_false_iff_ne.2 (by omega)
  have e2 : (u == m) = false := beq_eq_false_iff_ne.2 (by omega)
  have hw1 : IntKind.i64.wrap ((u : Int) + 1) = ((u + 1 : Nat) : Int) := by rw [IntWalk.i64_in _ (by omega)]; omega
  have hw2 : IntKind.i64.wrap (((u + 1 : Nat) : Int) - 1) = (u : Int) := by rw [IntWalk.i64_in _ (by omega)]; omega
  generalize AddFar w b l (u + 1) N ⟨19, (u : Int), []⟩ vn A = Q at HP
  obtain ⟨u1, hu1⟩ : ∃ u1, u + 1 = u1 := ⟨_, rfl⟩
  rw [hu1] at hw1 hw2 HF HADD HP
  clear hbox hm h hu1
  go_enter Tryz.func138, Tryz.ntmps138
  go_wp2_with fail
  go_quiet (fail)
  go_wp2_with fail
  obtain ⟨hf1, hb1⟩ := HF.out (w.drewN nq) (gb_drewN (gb_refl _ _) _)
  refine (HADD.out _ hb1).mono ?_
  rintro e w' hp
  have HP1 := Lib.hid (HP.out _ _ _ hf1 hp)
  obtain rfl := hp.1
  clear hp hf1 hb1 HP HF HADD
  go_wp2_with fail
  exact HP1.out

set_option maxRecDepth 100000 in
set_option maxHeartbeats 8000000 in
theorem Node_far (A : Nat → Prop) (b : Nat) (l : List Tok) (u : Nat) (N : List Nd) (vn : Value) (kind : Int) (kids : List Int) (q : Option Addr) (c : Nat) (w : World) (hN : N.length ≤ 100000) (hk : kids.length ≤ 100000) (h : FarV w b l u N vn A) (hA : ∀ k, w.heap.size ≤ k → A k) (hq : VAt w q (intsV kids)) (hok : okB N.length kids = true) :
    Calls Tryz.prog 64 #[.pointer (some ⟨b, 0, none⟩), .int .i64 kind, .slice q kids.length c] w (AddFar w b l u N ⟨kind, -1, kids⟩ vn A) := by
  obtain ⟨pt, ct, K, h, hFK⟩ := h
  have hbox := h.box
  have HH := Lib.hid h
  have HFK := Lib.hid hFK; have HFA := Lib.hid hA
  have HADD := Lib.hid (fun W p' c' (h : FarV W b l u N vn A) h1 h2 h3 => add_far A b l u N vn ⟨kind, -1, kids⟩ p' c' W hN h h1 h2 h3)
  have HE := Lib.hid (eachBelow_c N.length kids q c w (by omega) (by omega) hq)
  rw [hok] at HE
  have HON := Lib.hid (fun W h => ownNode_c kind (-1) kids q c W hk h)
  have HQ := Lib.hid hq
  have HTN := Lib.hid h.turn
  have hbl := hlt' h.box
  have HBL := Lib.hid hbl
  have HP : Hid (∀ W e w', Fr2 (Turn b vn) w W → AddFar W b l u N ⟨kind, -1, kids⟩ vn A e w' → AddFar w b l u N ⟨kind, -1, kids⟩ vn A e w') := Lib.hid (fun _ _ _ h1 h2 => h2.after h1)
  obtain ⟨pv, cv, e1, -, -, -⟩ := h.own.is
  rw [nds_len] at e1
  obtain ⟨m, hm⟩ : ∃ m, l.length = m := ⟨_, rfl⟩
  obtain ⟨M, hM⟩ : ∃ M, N.length = M := ⟨_, rfl⟩
  obtain ⟨kl, hkl⟩ : ∃ kl, kids.length = kl := ⟨_, rfl⟩
  have HM := Lib.hid hM; have HKL := Lib.hid hkl
  rw [hM] at e1
  rw [hm, e1] at hbox
  rw [hM, hkl] at HE
  rw [hkl] at HON
  rw [hkl]
  generalize AddFar w b l u N ⟨kind, -1, kids⟩ vn A = Q at HP
  obtain ⟨d0, d1, d2, d3⟩ := cells3' hbox
  clear hFK hA hbox hm h hM hkl hok hq hk hN e1 hbl
  go_enter Tryz.func64, Tryz.ntmps64
  go_wp2_with fail
  refine HE.out.mono ?_
  rintro e w1 ⟨rfl, hg⟩
  have HG := Lib.hid hg
  clear hg HE
  go_wp2_with fail
  refine (HON.out _ (HQ.out.kept HG.out)).mono ?_
  rintro e w2 ⟨hg2, p2, c2, rfl, hv2, -, hb2⟩
  have HG2 := Lib.hid (gb_trans HG.out hg2)
  have HV2 := Lib.hid hv2
  have HB2 := Lib.hid hb2
  have hgs := HG.out.size
  have HGS := Lib.hid hgs
  rw [HKL.out]
  clear hg2 hv2 hb2 hgs HON
  go_wp2_with fail
  have HA := Lib.hid (HADD.out w2 p2 c2 ⟨pt, ct, K, HH.out.kept HG2.out, HFK.out⟩ HV2.out (fun hne a ha => by
    obtain ⟨h1, -⟩ := HB2.out hne a ha
    have h2 := HGS.out
    have h3 := HBL.out
    refine ⟨by omega, fun e => ?_⟩
    have := (HTN.out _ e).2
    omega) (fun hne a ha => HFA.out _ (by
    have h1 := (HB2.out hne a ha).1
    have h2 := HGS.out
    omega)))
  rw [HKL.out] at HA
  refine HA.out.mono ?_
  rintro e w' hp
  have HP1 := Lib.hid (HP.out _ _ _ (Fr2.none HG2.out) hp)
  obtain rfl := hp.1
  clear hp HP HADD HA
  go_wp2_with fail
  exact HP1.out
end Go.Proofs.YtmlcpihedmmlfaaGreatDoor
namespace Go.Proofs.YtmlcpihedmmlfaaGreatDoor
open Go.RowKit

theorem cells10 {w : World} {r : Nat} {a b c d e f g h i j : Value} {T : TypeId} (hh : w.heap[r]? = some (.cells #[a, b, c, d, e, f, g, h, i, j] T (0, 0))) : w.cell? ⟨r, 0, none⟩ = some a ∧ w.cell? ⟨r, 1, none⟩ = some b ∧ w.cell? ⟨r, 2, none⟩ = some c ∧ w.cell? ⟨r, 3, none⟩ = some d ∧ w.cell? ⟨r, 4, none⟩ = some e ∧ w.cell? ⟨r, 5, none⟩ = some f ∧ w.cell? ⟨r, 6, none⟩ = some g ∧ w.cell? ⟨r, 7, none⟩ = some h ∧ w.cell? ⟨r, 8, none⟩ = some i ∧ w.cell? ⟨r, 9, none⟩ = some j ∧ ∀ o, w.frozen? ⟨r, o, none⟩ = false :=
  ⟨by rw [cell_of_row w r 0 _ T (0, 0) hh]; rfl, by rw [cell_of_row w r 1 _ T (0, 0) hh]; rfl, by rw [cell_of_row w r 2 _ T (0, 0) hh]; rfl, by rw [cell_of_row w r 3 _ T (0, 0) hh]; rfl, by rw [cell_of_row w r 4 _ T (0, 0) hh]; rfl, by rw [cell_of_row w r 5 _ T (0, 0) hh]; rfl, by rw [cell_of_row w r 6 _ T (0, 0) hh]; rfl, by rw [cell_of_row w r 7 _ T (0, 0) hh]; rfl, by rw [cell_of_row w r 8 _ T (0, 0) hh]; rfl, by rw [cell_of_row w r 9 _ T (0, 0) hh]; rfl, fun o => by simp [World.frozen?, hh]⟩

/-- The blocks that the parser turns. -/
def Tn (b bb : Nat) (vn : Value) : Nat → Prop := fun k => k = b ∨ k = bb ∨ vn.ownBlock = some k
/-- What calls of the parser do to the world. -/
structure Step (b bb : Nat) (vn : Value) (w : World) (vn' : Value) (w' : World) : Prop where
  fr : Fr2 (Tn b bb vn) w w'
  own : ∀ k, vn'.ownBlock = some k → vn.ownBlock = some k ∨ w.heap.size ≤ k
theorem Step.refl (b bb : Nat) (vn : Value) (w : World) : Step b bb vn w vn w := ⟨Fr2.refl _ _, fun _ h => .inl h⟩
theorem Step.of {b bb : Nat} {vn : Value} {w w' : World} (h : w.grownBy w' none) : Step b bb vn w vn w' := ⟨Fr2.none h, fun _ h => .inl h⟩
theorem Step.trans {b bb : Nat} {v0 v1 v2 : Value} {w0 w1 w2 : World} (h1 : Step b bb v0 w0 v1 w1) (h2 : Step b bb v1 w1 v2 w2) : Step b bb v0 w0 v2 w2 := by
  refine ⟨⟨h2.fr.os.trans h1.fr.os, h2.fr.tape.trans h1.fr.tape, h2.fr.output.trans h1.fr.output, Nat.le_trans h1.fr.size h2.fr.size, fun k hk hn => ?_⟩, fun k hk => ?_⟩
  · rw [h2.fr.block k (Nat.lt_of_lt_of_le hk h1.fr.size) ?_, h1.fr.block k hk hn]
    rintro (e | e | e)
    · exact hn (.inl e)
    · exact hn (.inr (.inl e))
    · rcases h1.own k e with h | h
      · exact hn (.inr (.inr h))
      · omega
  · rcases h2.own k hk with h | h
    · exact h1.own k h
    · exact .inr (Nat.le_trans h1.fr.size h)

/-- The parser at b, its builder at bb; the kids of its nodes lie in blocks of A. -/
structure XAt (w : World) (b bb : Nat) (T : List Tok) (D n : Nat) (s : St) (u : Nat) (N : List Nd) (vn : Value) (A : Nat → Prop) : Prop where
  box : w.heap[b]? = some (.cells #[.pointer (some ⟨bb, 0, none⟩), .int .i64 ((tokQ T s).kind : Int), strV (tokQ T s).lead, strV (tokQ T s).text, .int .i64 ((tokQ T s).pos : Int), .int .i64 (D : Int), .int .i64 (n : Int), .bool s.inn, .int .i64 (s.e : Int), .int .i64 (s.pos : Int)] 128 (0, 0))
  bld : FarV w bb T u N vn A
  far : ∀ k, A k → b < k
  new : ∀ k, w.heap.size ≤ k → A k
  lt : bb < b
  own : ∀ k, vn.ownBlock = some k → b < k ∧ k < w.heap.size
  ok : s.i < T.length
  few : N.length ≤ 2 * u

section
variable {w w' : World} {b bb : Nat} {T : List Tok} {D n : Nat} {s : St} {u : Nat} {N : List Nd} {vn : Value} {A : Nat → Prop}
theorem XAt.kept (h : XAt w b bb T D n s u N vn A) (hg : w.grownBy w' none) : XAt w' b bb T D n s u N vn A :=
  ⟨bx hg h.box, h.bld.kept hg, h.far, fun k hk => h.new k (Nat.le_trans hg.size hk), h.lt, fun k e => ⟨(h.own k e).1, Nat.lt_of_lt_of_le (h.own k e).2 hg.size⟩, h.ok, h.few⟩
theorem XAt.lt' (h : XAt w b bb T D n s u N vn A) : b < w.heap.size := hlt' h.box
/-- Cells of the parser's own are written. -/
theorem XAt.turn {n' : Nat} {s' : St} (h : XAt w b bb T D n s u N vn A) (hf : Fr2 (Self b) w w') (hb : w'.heap[b]? = some (.cells #[.pointer (some ⟨bb, 0, none⟩), .int .i64 ((tokQ T s').kind : Int), strV (tokQ T s').lead, strV (tokQ T s').text, .int .i64 ((tokQ T s').pos : Int), .int .i64 (D : Int), .int .i64 (n' : Int), .bool s'.inn, .int .i64 (s'.e : Int), .int .i64 (s'.pos : Int)] 128 (0, 0))) (ho : s'.i < T.length) : XAt w' b bb T D n' s' u N vn A :=
  ⟨hb, h.bld.keptF hf (fun k hk e => by have := h.lt; unfold Self at e; omega) (fun k e e2 => by have := (h.own k e).1; unfold Self at e2; omega) (fun k hk e => by have := h.far k hk; unfold Self at e; omega) (fun _ _ h => h), h.far, fun k hk => h.new k (Nat.le_trans hf.size hk), h.lt, fun k e => ⟨(h.own k e).1, Nat.lt_of_lt_of_le (h.own k e).2 hf.size⟩, ho, h.few⟩
theorem Step.self (h : Fr2 (Self b) w w') : Step b bb vn w vn w' := ⟨⟨h.os, h.tape, h.output, h.size, fun k hk hn => h.block k hk (fun e => hn (.inl e))⟩, fun _ h => .inl h⟩
end

/-! ### Slices of texts -/

def StrsAt (w : World) (v : Value) (ws : List (List UInt8)) : Prop := ∃ g, v = .slice (some ⟨g, 0, none⟩) ws.length ws.length ∧ ∀ (j : Nat) (x : List UInt8), ws[j]? = some x → w.cell? ⟨g, j, none⟩ = some (strV x)

def IdxPost (x : List UInt8) (ws : List (List UInt8)) (w : World) (e : Ending) (w' : World) : Prop := (∃ k : Int, e = .returned (.int .i64 k) ∧ decide (0 ≤ k) = decide (x ∈ ws)) ∧ w.grownBy w' none

set_option maxRecDepth 100000 in
set_option maxHeartbeats 4000000 in
theorem IndexS_c (g : Nat) (x : List UInt8) (ws : List (List UInt8)) (w : World) (hn : ws.length ≤ 100) (h : ∀ (j : Nat) (x : List UInt8), ws[j]? = some x → w.cell? ⟨g, j, none⟩ = some (strV x)) :
    Calls Tryz.prog 165 #[.slice (some ⟨g, 0, none⟩) ws.length ws.length, strV x] w (IdxPost x ws w) := by
  have HH := Lib.hid h
  clear h
  obtain ⟨m, hm⟩ : ∃ m, ws.length = m := ⟨_, rfl⟩
  have HM := Lib.hid hm
  unfold strV
  obtain ⟨xb, hxb⟩ : ∃ xb : ByteArray, (⟨x.toArray⟩ : ByteArray) = xb := ⟨_, rfl⟩
  have HX := Lib.hid hxb
  have HP : Hid (∀ (k : Int) (w' : World), decide (0 ≤ k) = decide (x ∈ ws) → w.grownBy w' none → IdxPost x ws w (.returned (.int .i64 k)) w') := Lib.hid (fun k w' h1 h2 => ⟨⟨k, rfl, h1⟩, h2⟩)
  rw [hm] at hn ⊢
  rw [hxb]
  clear hm hxb
  go_enter Tryz.func165, Tryz.ntmps165
  go_wp2_with fail
  go_loopw [8] (fun v wr => ∃ k : Nat, k ≤ m ∧ v = .int .i64 k ∧ wr = w ∧ Hid (∀ j, j < k → ws[j]? ≠ some x)) (fun v _ => m - (intOf v).toNat)
  case atStart => exact ⟨0, Nat.zero_le _, rfl, rfl, Lib.hid (fun j h => by omega)⟩
  case round =>
    obtain ⟨k, hk, rfl, rfl, HNO⟩ := hrel
    by_cases hlt : k < m
    · have d1 : decide ((k : Int) < (m : Int)) = true := decide_eq_true (by omega)
      have d1' : decide (k < m) = true := decide_eq_true hlt
      obtain ⟨y, hy⟩ : ∃ y, ws[k]? = some y := ⟨ws[k]'(by rw [HM.out]; exact hlt), List.getElem?_eq_getElem _⟩
      have c0 := HH.out k y hy
      unfold strV at c0
      obtain ⟨yb, hyb⟩ : ∃ yb : ByteArray, (⟨y.toArray⟩ : ByteArray) = yb := ⟨_, rfl⟩
      have e8 : (xb.toList == yb.toList) = decide (x = y) := by
        rw [← hyb, ← HX.out, toList_data, toList_data]
        by_cases e : x = y
        · rw [e]; simp
        · simp [e]
      rw [hyb] at c0
      have HY := Lib.hid hy
      clear hyb hy
      by_cases hxy : x = y
      · rw [decide_eq_true hxy] at e8
        have HIN : Hid (decide (0 ≤ (k : Int)) = decide (x ∈ ws)) := Lib.hid (by rw [decide_eq_true (show (0 : Int) ≤ (k : Int) by omega), decide_eq_true (by rw [hxy]; exact List.mem_of_getElem? HY.out)])
        clear hxy HNO
        go_wp2_with fail
        go_ret
        exact HP.out _ _ HIN.out (gb_refl _ _)
      · rw [decide_eq_false hxy] at e8
        have HN2 : Hid (∀ j, j < k + 1 → ws[j]? ≠ some x) := Lib.hid (fun j hj => by
          rcases Nat.lt_or_ge j k with h | h
          · exact HNO.out j h
          · obtain rfl : j = k := by omega
            rw [HY.out]; exact fun e => hxy (Option.some.inj e).symm)
        clear hxy HNO
        go_wp2_with fail
        go_roundw
        case rel => exact ⟨k + 1, by omega, by go_num, by first | rfl | trivial, HN2⟩
        case measure => (simp [intOf] <;> omega)
    · obtain rfl : k = m := by omega
      have HIN : Hid (decide (0 ≤ (-1 : Int)) = decide (x ∈ ws)) := Lib.hid (by
        rw [decide_eq_false (show ¬ (0 : Int) ≤ (-1 : Int) by omega), decide_eq_false]
        intro hx
        obtain ⟨j, hj⟩ := List.getElem?_of_mem hx
        exact HNO.out j (by rw [← HM.out]; exact (List.getElem?_eq_some_iff.1 hj).1) hj)
      clear HNO
      go_wp2_with fail
      go_ret
      exact HP.out _ _ HIN.out (gb_refl _ _)

set_option maxRecDepth 100000 in
set_option maxHeartbeats 4000000 in
theorem ContainsS_c (g : Nat) (x : List UInt8) (ws : List (List UInt8)) (w : World) (hn : ws.length ≤ 100) (h : ∀ (j : Nat) (x : List UInt8), ws[j]? = some x → w.cell? ⟨g, j, none⟩ = some (strV x)) :
    Calls Tryz.prog 137 #[.slice (some ⟨g, 0, none⟩) ws.length ws.length, strV x] w (ValPost (.bool (decide (x ∈ ws))) w) := by
  have HI := Lib.hid (IndexS_c g x ws w hn h)
  obtain ⟨m, hm⟩ : ∃ m, ws.length = m := ⟨_, rfl⟩
  obtain ⟨v, hv⟩ : ∃ v, strV x = v := ⟨_, rfl⟩
  rw [hm, hv] at HI ⊢
  clear hm hv h hn
  go_enter Tryz.func137, Tryz.ntmps137
  go_wp2_with fail
  refine HI.out.mono ?_
  rintro e w1 ⟨⟨k, rfl, hk⟩, hg⟩
  have HG := Lib.hid hg; have HK := Lib.hid hk
  clear hg HI hk
  go_wp2_with fail
  go_ret
  exact ⟨by rw [← HK.out]; rfl, HG.out⟩

/-- Is the next token one of these texts? -/
def atQ (T : List Tok) (ws : List (List UInt8)) (s : St) : Bool := decide (s.e = 0) && decide ((tokQ T s).text ∈ ws)

section
variable (b bb : Nat) (T : List Tok) (D n : Nat)

set_option maxRecDepth 100000 in
set_option maxHeartbeats 4000000 in
theorem at_c (s : St) (u : Nat) (N : List Nd) (vn v : Value) (A : Nat → Prop) (ws : List (List UInt8)) (w : World) (hn : ws.length ≤ 100) (h : XAt w b bb T D n s u N vn A) (hv : StrsAt w v ws) :
    Calls Tryz.prog 94 #[.pointer (some ⟨b, 0, none⟩), v] w (ValPost (.bool (atQ T ws s)) w) := by
  obtain ⟨d0, d1, d2, d3, d4, d5, d6, d7, d8, d9, d10⟩ := cells10 h.box
  obtain ⟨g, rfl, hc⟩ := hv
  have HC := Lib.hid (ContainsS_c g (tokQ T s).text ws w hn hc)
  have HA : Hid (atQ T ws s = (decide (s.e = 0) && decide ((tokQ T s).text ∈ ws))) := Lib.hid rfl
  obtain ⟨m, hm⟩ : ∃ m, ws.length = m := ⟨_, rfl⟩
  obtain ⟨t, ht⟩ : ∃ t, strV (tokQ T s).text = t := ⟨_, rfl⟩
  rw [ht] at d3
  rw [hm, ht] at HC
  rw [hm]
  obtain ⟨E, hE⟩ : ∃ E, s.e = E := ⟨_, rfl⟩
  rw [hE] at d8 HA
  clear hc h hn hm ht hE
  by_cases he : E = 0
  · subst he
    go_enter Tryz.func94, Tryz.ntmps94
    go_wp2_with fail
    refine HC.out.mono ?_
    rintro e w1 ⟨rfl, hg⟩
    have HG := Lib.hid hg
    clear hg HC
    go_wp2_with fail
    go_ret
    exact ⟨by rw [HA.out]; simp, HG.out⟩
  · have e2 : (E == 0) = false := beq_eq_false_iff_ne.2 he
    have e2' : ((E : Int) == 0) = false := beq_eq_false_iff_ne.2 (by omega)
    have HE := Lib.hid he
    clear he HC
    go_enter Tryz.func94, Tryz.ntmps94
    go_wp2_with fail
    go_ret
    exact ⟨by rw [HA.out, decide_eq_false HE.out]; rfl, gb_refl _ _⟩

set_option maxRecDepth 100000 in
set_option maxHeartbeats 4000000 in
theorem atKind_c (s : St) (u : Nat) (N : List Nd) (vn : Value) (A : Nat → Prop) (k : Nat) (w : World) (h : XAt w b bb T D n s u N vn A) :
    Calls Tryz.prog 103 #[.pointer (some ⟨b, 0, none⟩), .int .i64 (k : Int)] w (ValPost (.bool (decide (s.e = 0 ∧ (tokQ T s).kind = k))) w) := by
  obtain ⟨d0, d1, d2, d3, d4, d5, d6, d7, d8, d9, d10⟩ := cells10 h.box
  obtain ⟨t, ht⟩ : ∃ t, (tokQ T s).kind = t := ⟨_, rfl⟩
  rw [ht] at d1 ⊢
  obtain ⟨E, hE⟩ : ∃ E, s.e = E := ⟨_, rfl⟩
  rw [hE] at d8 ⊢
  clear h ht hE
  by_cases he : E = 0
  · subst he
    have e1 : ((t : Int) == (k : Int)) = decide (t = k) := by
      by_cases e : t = k
      · subst e; simp
      · rw [decide_eq_false e]; exact beq_eq_false_iff_ne.2 (by omega)
    have e1' : (t == k) = decide (t = k) := by by_cases e : t = k <;> simp [e]
    have HV : Hid (decide ((0 : Nat) = 0 ∧ t = k) = decide (t = k)) := Lib.hid (by simp)
    rw [HV.out]
    go_enter Tryz.func103, Tryz.ntmps103
    go_wp2_with fail
    go_ret
    exact ⟨by first | rfl | simp, gb_refl _ _⟩
  · have e2 : (E == 0) = false := beq_eq_false_iff_ne.2 he
    have e2' : ((E : Int) == 0) = false := beq_eq_false_iff_ne.2 (by omega)
    have HV : Hid (decide (E = 0 ∧ t = k) = false) := Lib.hid (decide_eq_false (fun e => he e.1))
    rw [HV.out]
    clear he
    go_enter Tryz.func103, Tryz.ntmps103
    go_wp2_with fail
    go_ret
    exact ⟨rfl, gb_refl _ _⟩

def FPost (b bb : Nat) (T : List Tok) (D n : Nat) (s : St) (u : Nat) (N : List Nd) (vn : Value) (A : Nat → Prop) (w : World) (e : Ending) (w' : World) : Prop := e = .returned (.int .i64 (-1)) ∧ XAt w' b bb T D n s u N vn A ∧ Step b bb vn w vn w'

set_option maxRecDepth 100000 in
set_option maxHeartbeats 4000000 in
theorem pfail_c (m : Nat) (s : St) (u : Nat) (N : List Nd) (vn : Value) (A : Nat → Prop) (w : World) (h : XAt w b bb T D n s u N vn A) :
    Calls Tryz.prog 95 #[.pointer (some ⟨b, 0, none⟩), .int .i64 (m : Int)] w (FPost b bb T D n (failQ T m s) u N vn A w) := by
  obtain ⟨d0, d1, d2, d3, d4, d5, d6, d7, d8, d9, d10⟩ := cells10 h.box
  have HB := Lib.hid h
  by_cases he : s.e = 0
  · have HF : Hid (failQ T m s = { s with e := m, pos := (tokQ T s).pos }) := Lib.hid (by unfold failQ; rw [if_pos he])
    have HB2 := Lib.hid (fun (v1 v2 : Value) => set_cells (i := 9) (u := v2) (set_cells (i := 8) (u := v1) h.box))
    obtain ⟨p, hp⟩ : ∃ p, (tokQ T s).pos = p := ⟨_, rfl⟩
    have HPP := Lib.hid hp
    rw [hp] at d4
    rw [he] at d8
    clear h he hp
    go_enter Tryz.func95, Tryz.ntmps95
    go_wp2_with fail
    go_ret
    have hf : Fr2 (Self b) w ((w.setCell ⟨b, 8, none⟩ (.int .i64 (m : Int))).setCell ⟨b, 9, none⟩ (.int .i64 (p : Int))) := ((Fr2.refl _ _).setCell (mine b) _).setCell (mine b) _
    refine ⟨rfl, ?_, Step.self hf⟩
    rw [HF.out]
    have hpp := HPP.out
    subst hpp
    exact HB.out.turn hf ((HB2.out _ _).trans rfl) HB.out.ok
  · have d11 : ((s.e : Int) == 0) = false := beq_eq_false_iff_ne.2 (by omega)
    have d11' : (s.e == 0) = false := beq_eq_false_iff_ne.2 he
    have HF : Hid (failQ T m s = s) := Lib.hid (fail_same T he)
    clear h he
    go_enter Tryz.func95, Tryz.ntmps95
    go_wp2_with fail
    go_ret
    exact ⟨rfl, by rw [HF.out]; exact HB.out, Step.refl _ _ _ _⟩
end
end Go.Proofs.YtmlcpihedmmlfaaGreatDoor
