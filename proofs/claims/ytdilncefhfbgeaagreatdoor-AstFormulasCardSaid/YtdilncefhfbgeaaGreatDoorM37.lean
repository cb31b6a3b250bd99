/- An expression's dump and its size. -/
import Derived.Test.YtdilncefhfbgeaaGreatDoorM35
import Derived.Test.YtdilncefhfbgeaaGreatDoorM36
import Derived.Test.YtdilncefhfbgeaaGreatDoorM17
import Derived.Test.YtdilncefhfbgeaaGreatDoorAForm2
import Derived.Test.YtdilncefhfbgeaaGreatDoorM13
import Derived.Laws.BytesString
set_option linter.unusedVariables false
set_option linter.unusedSimpArgs false
namespace Go.Proofs.YtdilncefhfbgeaaGreatDoor
open Go.RowKit

theorem tellD (F : Nat → Prop) (B : Nat) (hF : ∀ k, F k → k < B) : Tell stD 67 B B F (PD B B) LD allS where
  below := hF
  box := Nat.le_refl _
  tell := fun s f w hp _ hx hd hq hl => dump1_c F B B hF s f w hp hx hd hq hl
  mono := fun s x d h => by unfold LD stD at h; unfold LD; rw [List.length_append] at h; omega
  kids := fun x k h hk => allS_kid h hk
  grown := fun s w w' h hg => h.gb hg
  placed := fun s w w' g cs h hg hc hne => ⟨bld_keptS h.1 hg hc (by decide) hne, Nat.le_trans h.2 hg.size⟩

/-- An expression laid into a box of its own. -/
theorem EAt.box {F : Nat → Prop} {w : World} {x : Ex} {q : List Value} (h : EAt F w x q) : PAtE (fun k => k ≤ w.heap.size) (w.alloc (.cells q.toArray 60)) w.heap.size 0 x :=
  ⟨Nat.le_refl _, by simp, q, h.len, fun i v hi => by
    rw [Nat.zero_add]; unfold World.cell?; rw [show (⟨w.heap.size, i, none⟩ : Addr).block = w.heap.size from rfl, heap_alloc_new w]; simpa using hi,
   (h.bound.mono (fun k hk => Nat.le_of_lt hk.2)).kept (World.grownBy_alloc w _ none)⟩

set_option maxRecDepth 100000 in
set_option maxHeartbeats 16000000 in
theorem Dump_c2 (F : Nat → Prop) (x : Ex) (q : List Value) (w : World) (hx : EAt F w x q) (hs : allS x) (hc : cntE x ≤ 1000000) (hD : (dmpE x).length ≤ 1000000) :
    Calls Tryz.prog 30 #[.agg q.toArray] w (StrGb (dmpE x) w) := by
  have hb := hx.box
  have HS := Lib.hid hs; have HC := Lib.hid hc; have HD := Lib.hid hD
  obtain ⟨v0, v1, v2, v3, v4, v5, v6, v7, rfl⟩ : ∃ v0 v1 v2 v3 v4 v5 v6 v7, q = [v0, v1, v2, v3, v4, v5, v6, v7] := by
    have := hx.len
    match q, this with
    | [v0, v1, v2, v3, v4, v5, v6, v7], _ => exact ⟨_, _, _, _, _, _, _, _, rfl⟩
  have hA := World.grownBy_alloc w (.cells #[v0, v1, v2, v3, v4, v5, v6, v7] 60) none
  clear hx hs hc hD
  go_enter Tryz.func30, Tryz.ntmps30
  go_wp2_with fail
  change PAtE _ (w.alloc (.cells #[v0, v1, v2, v3, v4, v5, v6, v7] 60)) _ _ _ at hb
  obtain ⟨b, hbb⟩ : ∃ b, w.heap.size = b := ⟨_, rfl⟩
  have hsz : (w.alloc (.cells #[v0, v1, v2, v3, v4, v5, v6, v7] 60)).heap.size = b + 1 := by simp [hbb]
  generalize (w.alloc (.cells #[v0, v1, v2, v3, v4, v5, v6, v7] 60)) = WA at *
  have hbl := bld_new WA (b + 1) (by omega)
  have hgB := World.grownBy_alloc WA (.cells #[.pointer none, .slice none 0 0] 117) none
  have hsB : (WA.alloc (.cells #[.pointer none, .slice none 0 0] 117)).heap.size = b + 2 := by simp [hsz]
  generalize (WA.alloc (.cells #[.pointer none, .slice none 0 0] 117)) = WB at *
  rw [hsz] at hbl
  rw [hbb] at hb ⊢
  have hb2 := (hb.same (S := fun _ => False) (Fr2.none hgB) (fun _ _ h => h))
  have HW := Lib.hid (walkD_c stD (b + 1) (b + 1) _ (PD (b + 1) (b + 1)) LD allS (tellD (fun k => k ≤ b) (b + 1) (fun k hk => by omega)) x b 0 [] WB ⟨hbl, by omega⟩ hb2 (by omega) HC.out (by rw [runE_D]; exact HD.out) HS.out)
  have HG : Hid (w.grownBy WB none) := Lib.hid (gb_trans hA hgB)
  have HB1 : Hid (w.heap.size = b) := Lib.hid hbb
  have HZB : Hid (WB.heap.size = b + 2) := Lib.hid hsB
  clear hb hb2 hbl hsB hgB hsz hA hbb
  refine HW.out.mono ?_
  rintro e W3 ⟨rfl, hp3, hbe3⟩
  rw [runE_D, List.nil_append] at hp3
  have HSTR := Lib.hid (Tryz.Builder_String_any_k (b + 1) (b + 1) _ W3 (Lib.IsBuilderF.of hp3.1) hp3.2)
  have HBE3 := Lib.hid hbe3
  clear hp3 hbe3 HW
  go_wp2_with fail
  refine HSTR.out.mono ?_
  rintro e w7 ⟨rfl, -, hbe7, -⟩
  have HG7 : Hid (w.grownBy w7 none) := Lib.hid (below_gb (Below.mono (Below.trans2 (Below.gb HG.out (by rw [HB1.out]; exact Nat.le_refl _)) ((Below.trans2 HBE3.out hbe7).mono (by omega))) (by rw [HB1.out]; exact Nat.le_refl _)))
  clear hbe7
  go_wp2_with fail
  go_ret
  exact ⟨⟨_, rfl, rfl⟩, HG7.out⟩
end Go.Proofs.YtdilncefhfbgeaaGreatDoor
namespace Go.Proofs.YtdilncefhfbgeaaGreatDoor
open Go.RowKit

mutual
/-- How many expressions an expression is made of. -/
def sizE : Ex → Nat
  | .mk _ _ _ _ _ ks _ => 1 + sizK ks
def sizK : List Ex → Nat
  | [] => 0
  | k :: l => sizE k + sizK l
end
def stS (n : Nat) (_ : Ex) (d : Nat) : Nat := if d = 0 then n + 1 else n
mutual
theorem runE_S : ∀ (x : Ex) (n : Nat), runE stS x n = n + sizE x
  | .mk op nm md nu ys ks ps, n => by
    simp only [runE, sizE]
    rw [show stS n (.mk op nm md nu ys ks ps) 0 = n + 1 from rfl, runK_S _ 0 ks]; omega
theorem runK_S (x : Ex) : ∀ (j : Nat) (l : List Ex) (n : Nat), runK stS x j l n = n + sizK l
  | j, [], n => by simp [runK, sizK]
  | j, k :: l, n => by
    simp only [runK, sizK]
    rw [runE_S k, show stS (n + sizE k) x (j + 1) = n + sizE k from rfl, runK_S x (j + 1) l]; omega
end
def PS (b n : Nat) (w : World) : Prop := w.heap[b]? = some (.cells #[.int .i64 (n : Int)] 3 (0, 0))
def LS (n : Nat) : Prop := n ≤ 1000000

theorem PS.set {b n : Nat} {w : World} (h : PS b n w) (m : Nat) : PS b m (w.setCell ⟨b, 0, none⟩ (.int .i64 (m : Int))) := by
  unfold PS at h ⊢
  simp only [World.setCell, Array.getElem?_modify, h]; simp

set_option maxRecDepth 100000 in
set_option maxHeartbeats 16000000 in
theorem size1_c (b : Nat) (n : Nat) (d : Nat) (av : Value) (w : World) (hp : PS b n w) (hl : LS (if d = 0 then n + 1 else n)) :
    Calls Tryz.prog 70 #[av, .int .i64 (d : Int), .pointer (some ⟨b, 0, none⟩)] w (fun e w' => e = .returned (.tuple #[]) ∧ PS b (if d = 0 then n + 1 else n) w' ∧ Below b w w' ∧ OKept b w w') := by
  have hbl := hlt' hp
  have c0 : w.cell? ⟨b, 0, none⟩ = some (.int .i64 (n : Int)) := by unfold World.cell?; unfold PS at hp; simp [hp]
  have hfz : w.frozen? ⟨b, 0, none⟩ = false := by unfold PS at hp; simp [World.frozen?, hp]
  go_enter Tryz.func70, Tryz.ntmps70
  by_cases h0 : d = 0
  · have e1 : ((d : Int) == 0) = true := by rw [h0]; rfl
    have e1' : (d == 0) = true := by rw [h0]; rfl
    rw [if_pos h0] at hl ⊢
    have hw1 : IntKind.i64.wrap ((n : Int) + 1) = ((n + 1 : Nat) : Int) := by unfold LS at hl; rw [IntWalk.i64_in _ (by omega)]; omega
    clear h0
    go_wp2_with fail
    refine bodyPost_end (results_none rfl _ _ _) rfl ?_
    exact ⟨rfl, hp.set (n + 1), (Below.refl b w).setCell (Nat.le_refl _) _, fun g cs T h1 _ h3 => by rw [Below.heap_setCell _ _ _ _ (by exact h3)]; exact h1⟩
  · have e1 : ((d : Int) == 0) = false := beq_eq_false_iff_ne.2 (by omega)
    have e1' : (d == 0) = false := beq_eq_false_iff_ne.2 h0
    rw [if_neg h0] at hl ⊢
    clear h0
    go_wp2_with fail
    refine bodyPost_end (results_none rfl _ _ _) rfl ?_
    exact ⟨rfl, hp, Below.refl b w, fun _ _ _ h _ _ => h⟩

theorem tellS (F : Nat → Prop) (B : Nat) (hF : ∀ k, F k → k < B) : Tell stS 70 B B F (PS B) LS (fun _ => True) where
  below := hF
  box := Nat.le_refl _
  tell := fun s f w hp _ hx hd hq hl => size1_c B s f.d _ w hp hl
  mono := fun s x d h => by unfold LS stS at h; unfold LS; split at h <;> omega
  kids := fun _ _ _ _ => trivial
  grown := fun s w w' h hg => by unfold PS at h ⊢; exact bx hg h
  placed := fun s w w' g cs h hg hc hne => by unfold PS at h ⊢; rw [hg.block B (hlt' h) (fun e => hne (by injection e with e; exact e.symm))]; exact h

set_option maxRecDepth 100000 in
set_option maxHeartbeats 16000000 in
theorem Size_c (F : Nat → Prop) (x : Ex) (q : List Value) (w : World) (hx : EAt F w x q) (hc : cntE x ≤ 1000000) (hD : sizE x ≤ 1000000) :
    Calls Tryz.prog 32 #[.agg q.toArray] w (fun e w' => e = .returned (.int .i64 (sizE x : Int)) ∧ w.grownBy w' none) := by
  have hb := hx.box
  have HC := Lib.hid hc; have HD := Lib.hid hD
  obtain ⟨v0, v1, v2, v3, v4, v5, v6, v7, rfl⟩ : ∃ v0 v1 v2 v3 v4 v5 v6 v7, q = [v0, v1, v2, v3, v4, v5, v6, v7] := by
    have := hx.len
    match q, this with
    | [v0, v1, v2, v3, v4, v5, v6, v7], _ => exact ⟨_, _, _, _, _, _, _, _, rfl⟩
  have hA := World.grownBy_alloc w (.cells #[v0, v1, v2, v3, v4, v5, v6, v7] 60) none
  obtain ⟨n, hn⟩ : ∃ n, sizE x = n := ⟨_, rfl⟩
  rw [hn]
  have HN := Lib.hid hn
  clear hx hc hD hn
  go_enter Tryz.func32, Tryz.ntmps32
  go_wp2_with fail
  change PAtE _ (w.alloc (.cells #[v0, v1, v2, v3, v4, v5, v6, v7] 60)) _ _ _ at hb
  obtain ⟨b, hbb⟩ : ∃ b, w.heap.size = b := ⟨_, rfl⟩
  have hsz : (w.alloc (.cells #[v0, v1, v2, v3, v4, v5, v6, v7] 60)).heap.size = b + 1 := by simp [hbb]
  generalize (w.alloc (.cells #[v0, v1, v2, v3, v4, v5, v6, v7] 60)) = WA at *
  have hbl : PS (b + 1) 0 (WA.alloc (.cells #[.int .i64 0] 3)) := by unfold PS; rw [← hsz]; exact heap_alloc_new WA _
  have hgB := World.grownBy_alloc WA (.cells #[.int .i64 0] 3) none
  have hsB : (WA.alloc (.cells #[.int .i64 0] 3)).heap.size = b + 2 := by simp [hsz]
  generalize (WA.alloc (.cells #[.int .i64 0] 3)) = WB at *
  rw [hbb] at hb ⊢
  have hb2 := (hb.same (S := fun _ => False) (Fr2.none hgB) (fun _ _ h => h))
  have HW := Lib.hid (walkS_c stS (b + 1) (b + 1) _ (PS (b + 1)) LS (fun _ => True) (tellS (fun k => k ≤ b) (b + 1) (fun k hk => by omega)) x b 0 0 WB hbl hb2 (by omega) HC.out (by rw [runE_S, Nat.zero_add]; exact HD.out) trivial)
  have HG : Hid (w.grownBy WB none) := Lib.hid (gb_trans hA hgB)
  have HB1 : Hid (w.heap.size = b) := Lib.hid hbb
  clear hb hb2 hbl hsB hgB hsz hA hbb
  refine HW.out.mono ?_
  rintro e W3 ⟨rfl, hp3, hbe3⟩
  rw [runE_S, Nat.zero_add] at hp3
  rw [HN.out] at hp3
  have hbl := hlt' hp3
  have c0 : W3.cell? ⟨b + 1, 0, none⟩ = some (.int .i64 (n : Int)) := by unfold World.cell?; unfold PS at hp3; simp [hp3]
  have HG7 : Hid (w.grownBy W3 none) := Lib.hid (below_gb (Below.mono (Below.trans2 (Below.gb HG.out (by rw [HB1.out]; exact Nat.le_refl _)) (hbe3.mono (by omega))) (by rw [HB1.out]; exact Nat.le_refl _)))
  clear hbe3 HW hp3
  go_wp2_with fail
  go_ret
  exact ⟨rfl, HG7.out⟩
end Go.Proofs.YtdilncefhfbgeaaGreatDoor
namespace Go.Proofs.YtdilncefhfbgeaaGreatDoor
open Go.RowKit

def exF8 : List UInt8 := [40, 120, 41, 43, 49]
def exX8 : Ex := .mk 7 [] [] [] false [.mk 3 [120] [] [] false [] 1, .mk 1 [] [] [49] false [] 4] 3
theorem exF8_ok : (ansQ exF8 9 true).2.1 = 0 := by kernel_rfl
theorem exF8_form : formE exF8 9 = exX8 := by kernel_rfl
theorem exX8_dump : dmpE exX8 = [91, 55, 32, 91, 51, 32, 120, 93, 32, 91, 49, 32, 49, 93, 93] := by kernel_rfl
theorem exX8_size : sizE exX8 = 3 := by kernel_rfl
theorem exX8_cnt : cntE exX8 ≤ 1000000 := by decide +kernel
theorem exX8_small : allS exX8 := by
  simp [exX8, allS, allSs, smallE]

set_option maxRecDepth 100000 in
set_option maxHeartbeats 16000000 in
theorem anchor8_c (w : World) (hla : LaidE w) (hls : LaidS w) : Calls Tryz.prog 13 #[] w (ValPost (.bool true) w) := by
  have HP1 := Lib.hid (Formula_p ⟨#[40, 120, 41, 43, 49]⟩ 9 w (by decide) hla)
  have hok : (ansQ (⟨#[40, 120, 41, 43, 49]⟩ : ByteArray).data.toList 9 true).2.1 = 0 := exF8_ok
  have HLA := Lib.hid hla; have HLS := Lib.hid hls
  clear hla hls
  go_enter Tryz.func13, Tryz.ntmps13
  go_wp2_with fail
  refine HP1.out.mono ?_
  rintro e w1 ⟨hg1, he⟩
  rw [if_neg (by rw [hok]; decide)] at he
  obtain ⟨pt, ct, pn, cn, K, rfl, hta, hct, hna, -, -, -, hN⟩ := he
  have HFO := Lib.hid (fun W h1 h2 h3 h4 => FormulaOf_c ⟨#[40, 120, 41, 43, 49]⟩ 9 (by decide) hok pt pn ct cn K W h1 h2 h3 h4 hN)
  have hx8 : formE (⟨#[40, 120, 41, 43, 49]⟩ : ByteArray).data.toList 9 = exX8 := exF8_form
  rw [hx8] at HFO
  have HTA := Lib.hid hta; have HNA := Lib.hid hna; have HG1 := Lib.hid hg1
  obtain ⟨m, hm⟩ : ∃ m, (allE (⟨#[40, 120, 41, 43, 49]⟩ : ByteArray).data.toList).1.length = m := ⟨_, rfl⟩
  obtain ⟨M, hM⟩ : ∃ M, (nodesQ (⟨#[40, 120, 41, 43, 49]⟩ : ByteArray).data.toList 9 true).length = M := ⟨_, rfl⟩
  rw [hm, hM] at HFO ⊢
  obtain ⟨W, b0, b1, hW, e0, e1, hB0, hB1, hgW, h01⟩ := two w1 (.cells #[.slice pt m ct, .slice pn M cn] 26) (.cells #[.int .i64 0, .int .i64 0] 29)
  have HB0 := Lib.hid hB0; have HGW := Lib.hid hgW
  clear hm hM hN hct hta hna hg1 hok hx8 HP1 hB0 hB1 hgW
  go_wp2_with fail
  try rw [← hW]
  try rw [e1]
  try rw [e0]
  clear e0 e1 hW
  refine (HFO.out _ (HLA.out.kept (gb_trans HG1.out HGW.out)) (HLS.out.kept (gb_trans HG1.out HGW.out)) (HTA.out.kept HGW.out) (HNA.out.kept HGW.out)).mono ?_
  rintro e w2 ⟨hg2, q, rfl, hq⟩
  have HG2 := Lib.hid (gb_trans (gb_trans HG1.out HGW.out) hg2)
  obtain ⟨ax, bx8, s8, pw, nw, cw, pk, nk, ck, rfl⟩ : ∃ (a b : ByteArray) (s : Bool) (p : Option Addr) (n c : Nat) (p' : Option Addr) (n' c' : Nat), q = [.int .i64 7, .string a, .string b, .bool s, .slice p n c, .bool false, .slice p' n' c', .int .i64 3] := by
    unfold exX8 at hq
    simp only [EAt] at hq
    obtain ⟨s, pw, nw, cw, pk, ck, rows, rfl, -⟩ := hq
    exact ⟨_, _, _, _, _, _, _, _, _, rfl⟩
  have HDU := Lib.hid (fun W (h : w2.grownBy W none) => Dump_c2 _ exX8 _ W (hq.kept h) exX8_small exX8_cnt (by rw [exX8_dump]; decide))
  have HSI := Lib.hid (fun W (h : w2.grownBy W none) => Size_c _ exX8 _ W (hq.kept h) exX8_cnt (by rw [exX8_size]; decide))
  clear hg2 hq HFO HLA HLS HTA HNA HGW HB0 HG1
  go_wp2_with fail
  have hg0 := World.grownBy_alloc w2 (.cells #[.int .i64 7, .string ax, .string bx8, .bool s8, .slice pw nw cw, .bool false, .slice pk nk ck, .int .i64 3] 60) none
  have HB := Lib.hid (heap_alloc_new w2 (.cells #[.int .i64 7, .string ax, .string bx8, .bool s8, .slice pw nw cw, .bool false, .slice pk nk ck, .int .i64 3] 60))
  have HG0 := Lib.hid hg0
  clear hg0
  refine (HDU.out _ HG0.out).mono ?_
  rintro e w3 ⟨⟨y, rfl, hy⟩, hg3⟩
  have e1 : (y.toList == [91, 55, 32, 91, 51, 32, 120, 93, 32, 91, 49, 32, 49, 93, 93]) = true := by rw [toList_data, hy, exX8_dump]; rfl
  have HB3 := Lib.hid (bx hg3 HB.out)
  have HG3 := Lib.hid (gb_trans HG0.out hg3)
  obtain ⟨c0, c1, c2, c3, c4, c5, c6, c7, c8⟩ := cells8x HB3.out
  clear hg3 hy HDU HB
  go_wp2_with fail
  refine (HSI.out _ HG3.out).mono ?_
  rintro e w4 ⟨rfl, hg4⟩
  rw [exX8_size]
  have HG4 := Lib.hid (gb_trans HG2.out (gb_trans HG3.out hg4))
  clear hg4 HSI
  go_wp2_with fail
  go_ret
  exact ⟨rfl, HG4.out⟩
end Go.Proofs.YtdilncefhfbgeaaGreatDoor
namespace Go.Proofs.YtdilncefhfbgeaaGreatDoor
open Go.RowKit

theorem empty_ans : ((ansQ [] 200 true).2.1 != 0) = true := by kernel_rfl

set_option maxRecDepth 100000 in
set_option maxHeartbeats 16000000 in
theorem newReader_bad (w : World) (hla : LaidE w) :
    Calls Tryz.prog 50 #[.agg #[.slice none 0 0, .slice none 0 0], .func (.func 26) #[] #[]] w (ValPost (.tuple #[.agg #[.slice none 0 0, .slice none 0 0], .int .i64 10]) w) := by
  have HLA := Lib.hid hla
  have HSH := Lib.hid (fun (W : World) => Show_c [] none none 0 0 0 W (by simp) (by simp [wholeL]) (by unfold TAt; exact .inl rfl))
  have HP := Lib.hid (fun W h => Formula_p ⟨#[]⟩ 200 W (by decide) h)
  clear hla
  go_enter Tryz.func50, Tryz.ntmps50
  go_wp2_with fail
  obtain ⟨W, b0, b1, hW, e0, e1, hB0, hB1, hgW, h01⟩ := two w (.cells #[.slice none 0 0, .slice none 0 0] 26) (.cells #[.slice none 0 0, .slice none 0 0] 105)
  have HB0 := Lib.hid hB0; have HB1 := Lib.hid hB1; have HGW := Lib.hid hgW; have HE0 := Lib.hid e0
  clear hB0 hB1 hgW
  try rw [← hW]
  try rw [e1]
  try rw [e0]
  clear e0 e1 hW
  refine (HSH.out _).mono ?_
  rintro e w1 ⟨⟨y, rfl, hy⟩, hg1⟩
  have hy0 : y = ⟨#[]⟩ := ByteArray.ext (Array.toList_inj.1 (hy.trans (by simp [wholeL])))
  subst hy0
  have HG1 := Lib.hid (gb_trans HGW.out hg1)
  have HB11 := Lib.hid (bx hg1 HB1.out)
  clear hg1 hy HSH
  go_wp2_with fail
  refine (HP.out _ (HLA.out.kept HG1.out)).mono ?_
  rintro e w2 ⟨hg2, he⟩
  have hne : (ansQ (⟨#[]⟩ : ByteArray).data.toList 200 true).2.1 ≠ 0 := by
    have h := empty_ans
    exact bne_iff_ne.1 h
  rw [if_pos hne] at he
  subst he
  unfold badV
  obtain ⟨E, hE⟩ : ∃ E, (ansQ (⟨#[]⟩ : ByteArray).data.toList 200 true).2.1 = E := ⟨_, rfl⟩
  obtain ⟨P, hP⟩ : ∃ P, (ansQ (⟨#[]⟩ : ByteArray).data.toList 200 true).2.2 = P := ⟨_, rfl⟩
  rw [hE] at hne
  rw [hE, hP]
  have e1 : ((E : Int) != 0) = true := bne_iff_ne.2 (by omega)
  have e1' : (E != 0) = true := bne_iff_ne.2 hne
  have e2 : ((E : Int) == 0) = false := beq_eq_false_iff_ne.2 (by omega)
  have e2' : (E == 0) = false := beq_eq_false_iff_ne.2 hne
  have HG2 := Lib.hid (gb_trans HG1.out hg2)
  have HB12 := Lib.hid (bx hg2 HB11.out)
  clear hg2 hE hP hne HP
  obtain ⟨c0, c1, c2⟩ := cells2 HB12.out
  have hb1 : b1 < w2.heap.size := hlt HB12.out
  go_wp2_with fail
  have hf : Fr2 (Self b1) w2 ((w2.setCell ⟨b1, 0, none⟩ (.slice none 0 0)).setCell ⟨b1, 1, none⟩ (.slice none 0 0)) := ((Fr2.refl _ _).setCell (mine b1) _).setCell (mine b1) _
  have hfg := Fr2.after HG2.out hf (fun j hj => by have e : j = b1 := hj; have := HE0.out; omega)
  have hc := set_cells (i := 1) (u := .slice none 0 0) (set_cells (i := 0) (u := .slice none 0 0) HB12.out)
  have hc2 := bx (gb_alloc (gb_alloc (gb_refl _ none) (.cells #[.slice none 0 0, .slice none 0 0] 26)) (.cells #[.int .i64 (E : Int), .int .i64 (P : Int)] 29)) (show ((w2.setCell ⟨b1, 0, none⟩ (.slice none 0 0)).setCell ⟨b1, 1, none⟩ (.slice none 0 0)).heap[b1]? = some (Obj.cells #[.slice none 0 0, .slice none 0 0] 105) from hc)
  obtain ⟨k0, k1, -⟩ := cells2 hc2
  refine bodyPost_ret (v := .tuple #[.agg #[.slice none 0 0, .slice none 0 0], .int .i64 10]) (by simp [results, Tryz.results50, go_sem, k0, k1]) rfl (show ValPost _ w _ _ from ⟨rfl, gb_alloc (gb_alloc hfg _) _⟩)

set_option maxRecDepth 100000 in
set_option maxHeartbeats 16000000 in
theorem FormulaOf_bad (w : World) (hla : LaidE w) :
    Calls Tryz.prog 27 #[.agg #[.slice none 0 0, .slice none 0 0]] w (ValPost (.tuple #[.agg #[.int .i64 0, .string ⟨#[]⟩, .string ⟨#[]⟩, .bool false, .slice none 0 0, .bool false, .slice none 0 0, .int .i64 0], .int .i64 10]) w) := by
  have HLA := Lib.hid hla
  have HNR := Lib.hid (fun W h => newReader_bad W h)
  clear hla
  go_enter Tryz.func27, Tryz.ntmps27
  go_wp2_with fail
  obtain ⟨W, b0, b1, hW, e0, e1, hB0, hB1, hgW, h01⟩ := two w (.cells #[.slice none 0 0, .slice none 0 0] 26) (.cells #[.int .i64 0, .string ⟨#[]⟩, .string ⟨#[]⟩, .bool false, .slice none 0 0, .bool false, .slice none 0 0, .int .i64 0] 60)
  have HB1 := Lib.hid hB1; have HGW := Lib.hid hgW; have HE0 := Lib.hid e0
  clear hB0 hB1 hgW
  try rw [← hW]
  try rw [e1]
  try rw [e0]
  clear e0 e1 hW
  refine (HNR.out _ (HLA.out.kept HGW.out)).mono ?_
  rintro e w1 ⟨rfl, hg1⟩
  have HG1 := Lib.hid (gb_trans HGW.out hg1)
  have HB11 := Lib.hid (bx hg1 HB1.out)
  obtain ⟨c0, c1, c2, c3, c4, c5, c6, c7, c8⟩ := cells8x HB11.out
  have hb1 : b1 < w1.heap.size := hlt HB11.out
  clear hg1 HNR
  go_wp2_with fail
  obtain ⟨hp, hf⟩ := put8c HB11.out (.int .i64 0) (.string ⟨#[]⟩) (.string ⟨#[]⟩) (.bool false) (.slice none 0 0) (.bool false) (.slice none 0 0) (.int .i64 0)
  have hp2 := bx (gb_alloc (gb_refl _ none) (.cells #[.slice none 0 0, .slice none 0 0] 105)) hp
  obtain ⟨k0, k1, k2, k3, k4, k5, k6, k7, -⟩ := cells8x hp2
  have hfg := Fr2.after HG1.out hf (fun j hj => by have e : j = b1 := hj; have := HE0.out; omega)
  refine bodyPost_ret (v := .tuple #[.agg #[.int .i64 0, .string ⟨#[]⟩, .string ⟨#[]⟩, .bool false, .slice none 0 0, .bool false, .slice none 0 0, .int .i64 0], .int .i64 10]) (by simp [results, Tryz.results27, go_sem, k0, k1, k2, k3, k4, k5, k6, k7]) rfl (show ValPost _ w _ _ from ⟨rfl, gb_alloc hfg _⟩)
end Go.Proofs.YtdilncefhfbgeaaGreatDoor
namespace Go.Proofs.YtdilncefhfbgeaaGreatDoor
open Go.RowKit

mutual
def atsE : Ex → List Int
  | .mk _ _ _ _ _ ks ps => (ps : Int) :: atsK ks
def atsK : List Ex → List Int
  | [] => []
  | k :: l => atsE k ++ atsK l
end
theorem atsK_next : ∀ {l : List Ex} {j : Nat} {k : Ex}, l[j]? = some k → atsK (l.take (j + 1)) = atsK (l.take j) ++ atsE k
  | [], j, k, h => by simp at h
  | y :: l, 0, k, h => by simp at h; subst h; simp [atsK]
  | y :: l, j + 1, k, h => by
    have h2 := atsK_next (l := l) (j := j) (k := k) (by simpa using h)
    rw [List.take_succ_cons, List.take_succ_cons]; simp only [atsK]; rw [h2, List.append_assoc]
theorem atsK_len_take : ∀ (l : List Ex) (j : Nat), (atsK (l.take j)).length ≤ (atsK l).length
  | [], j => by simp
  | y :: l, 0 => by simp [atsK]
  | y :: l, j + 1 => by
    have := atsK_len_take l j
    rw [List.take_succ_cons]; simp only [atsK, List.length_append]; omega
theorem sizK_get : ∀ {l : List Ex} {j : Nat} {k : Ex}, l[j]? = some k → sizE k ≤ sizK l
  | [], j, k, h => by simp at h
  | y :: l, 0, k, h => by simp at h; subst h; simp [sizK]
  | y :: l, j + 1, k, h => by
    have := sizK_get (l := l) (j := j) (k := k) (by simpa using h)
    simp only [sizK]; omega
/-- An expression has as many places as parts. -/
theorem atsK_nil : atsK [] = [] := by simp [atsK]
mutual
theorem atsE_len : ∀ x : Ex, (atsE x).length = sizE x
  | .mk op nm md nu ys ks ps => by simp only [atsE, sizE, List.length_cons]; rw [atsK_len ks]; omega
theorem atsK_len : ∀ l : List Ex, (atsK l).length = sizK l
  | [] => by simp [atsK, sizK]
  | k :: l => by simp only [atsK, sizK, List.length_append]; rw [atsE_len k, atsK_len l]
end
theorem sizE_pos (x : Ex) : 1 ≤ sizE x := by cases x; simp only [sizE]; omega
theorem len_sizK : ∀ l : List Ex, l.length ≤ sizK l
  | [] => Nat.zero_le _
  | k :: l => by have := len_sizK l; have := sizE_pos k; simp only [sizK, List.length_cons]; omega
def IntsPost (l : List Int) (w : World) (e : Ending) (w' : World) : Prop := w.grownBy w' none ∧ ∃ p c, e = .returned (.slice p l.length c) ∧ VAt w' p (intsV l)

set_option maxRecDepth 100000 in
set_option maxHeartbeats 16000000 in
theorem lats_c : ∀ (n : Nat) (x : Ex), sizE x ≤ n → ∀ (F : Nat → Prop) (q : List Value) (w : World), EAt F w x q → (atsE x).length ≤ 1000000 →
    Calls Tryz.prog 24 #[.agg q.toArray] w (IntsPost (atsE x) w) := by
  intro n
  induction n with
  | zero => intro x hn; cases x; simp [sizE] at hn
  | succ n ih =>
    intro x hn F q w hx hl
    cases x with
    | mk op nm md nu ys ks ps =>
      simp only [EAt] at hx
      obtain ⟨s, pw, nw, cw, pk, ck, rows, rfl, -, hg, hls, -⟩ := hx
      unfold strV
      generalize (⟨nm.toArray⟩ : ByteArray) = y at *
      generalize (⟨md.toArray⟩ : ByteArray) = z at *
      obtain ⟨kl, hkl⟩ : ∃ kl, ks.length = kl := ⟨_, rfl⟩
      have HKL := Lib.hid hkl
      have HG := Lib.hid hg; have HLS := Lib.hid hls; have HN := Lib.hid hn; have HL := Lib.hid hl; have IH := Lib.hid ih
      have hkb : kl ≤ 1000000 := by
        have h1 := len_sizK ks
        rw [← atsK_len] at h1
        simp only [atsE, List.length_cons] at hl
        omega
      obtain ⟨AT, hAT⟩ : ∃ AT, atsE (Ex.mk op nm md nu ys ks ps) = AT := ⟨_, rfl⟩
      have HAT := Lib.hid hAT
      rw [hkl, hAT]
      clear hg hls hn hl ih hkl hAT
      go_enter Tryz.func24, Tryz.ntmps24
      go_wp2_with fail
      have hgA := World.grownBy_alloc w (.cells #[.int .i64 (op : Int), .string y, .string z, .bool s, .slice pw nw cw, .bool ys, .slice pk kl ck, .int .i64 (ps : Int)] 60) none
      have hsA : (w.alloc (.cells #[.int .i64 (op : Int), .string y, .string z, .bool s, .slice pw nw cw, .bool ys, .slice pk kl ck, .int .i64 (ps : Int)] 60)).heap.size = w.heap.size + 1 := by simp
      generalize (w.alloc (.cells #[.int .i64 (op : Int), .string y, .string z, .bool s, .slice pw nw cw, .bool ys, .slice pk kl ck, .int .i64 (ps : Int)] 60)) = WA at *
      have hO := OwnL.new WA (w.heap.size + 1) (ps : Int) (w.heap.size + 1) hsA (Nat.le_refl _)
      have hgB := World.grownBy_alloc WA (.cells #[.int .i64 (ps : Int)] 3) none
      generalize (WA.alloc (.cells #[.int .i64 (ps : Int)] 3)) = WB at *
      obtain ⟨b, hb⟩ : ∃ b, w.heap.size = b := ⟨_, rfl⟩
      rw [hb] at hsA hO ⊢
      have HSA := Lib.hid hsA; have HGA := Lib.hid hgA; have HGB := Lib.hid hgB
      have HO0 : Hid (OwnG 1 3 WB (b + 1) (.slice (some ⟨b + 1, 0, none⟩) 1 1) (one (intsV ((ps : Int) :: atsK (ks.take 0))))) := Lib.hid (by rw [List.take_zero, atsK_nil]; exact hO)
      clear hgA hsA hO hgB hb
      go_loopw [3, 12] (fun v i wr => ∃ k : Nat, k ≤ kl ∧ i = .int .i64 k ∧ Hid (OwnG 1 3 wr (b + 1) v (one (intsV ((ps : Int) :: atsK (ks.take k))))) ∧ Hid (WA.grownBy wr none)) (fun _ i _ => kl - (intOf i).toNat)
      case atStart => exact ⟨0, Nat.zero_le _, rfl, HO0, HGB⟩
      case round =>
        clear HO0
        obtain ⟨k, hk, rfl, HO, HGR⟩ := hrel
        have HGW : Hid (w.grownBy wr none) := Lib.hid (gb_trans HGA.out HGR.out)
        by_cases hlt : k < kl
        · have d3 : decide ((k : Int) < (kl : Int)) = true := decide_eq_true (by omega)
          have d3' : decide (k < kl) = true := decide_eq_true hlt
          obtain ⟨x, hx⟩ : ∃ x, ks[k]? = some x := ⟨ks[k]'(by rw [HKL.out]; exact hlt), List.getElem?_eq_getElem _⟩
          obtain ⟨qx, hqx, hEx⟩ := Ls_get HLS.out hx
          have HNX := Lib.hid (atsK_next hx)
          have HSX : Hid (sizE x ≤ n) := Lib.hid (by have := sizK_get hx; have := HN.out; simp only [sizE] at this; omega)
          have HEX := Lib.hid (hEx.kept HGW.out)
          obtain ⟨g, off, rfl, hgl, hc⟩ := HG.out.resolve_left (fun e => by rw [e] at hqx; simp at hqx)
          have HLX : Hid ((atsE x).length ≤ 1000000 ∧ (one (intsV ((ps : Int) :: atsK (ks.take k)))).length ≤ 1000000) := Lib.hid (by
            have h1 := HL.out
            have h2 := atsK_len_take ks (k + 1)
            rw [HNX.out, List.length_append] at h2
            simp only [atsE, List.length_cons] at h1
            rw [one_len, intsV_len, List.length_cons]; omega)
          have HIH := Lib.hid (fun W h => IH.out x HSX.out (fun k => F k) qx W h HLX.out.1)
          cases x with
          | mk op' nm' md' nu' ys' ks' ps' =>
            simp only [EAt] at hEx
            obtain ⟨s', pw', nw', cw', pk', ck', rows', rfl, -⟩ := hEx
            unfold strV at *
            generalize (⟨nm'.toArray⟩ : ByteArray) = y' at *
            generalize (⟨md'.toArray⟩ : ByteArray) = z' at *
            generalize hkl' : ks'.length = kl' at *
            have hc := fun i v h => HGW.out.cell (hc k _ hqx i v h) (by simp)
            have c0 := hc 0 _ rfl
            have c1 := hc 1 _ rfl
            have c2 := hc 2 _ rfl
            have c3 := hc 3 _ rfl
            have c4 := hc 4 _ rfl
            have c5 := hc 5 _ rfl
            have c6 := hc 6 _ rfl
            have c7 := hc 7 _ rfl
            rw [Nat.add_zero] at c0
            have hgl := Nat.lt_of_lt_of_le hgl HGW.out.size
            obtain ⟨ax, hax⟩ : ∃ ax, atsE (Ex.mk op' nm' md' nu' ys' ks' ps') = ax := ⟨_, rfl⟩
            rw [hax] at HLX HNX HIH
            clear hx hqx hc hkl' hax
            go_wp2_with fail
            refine (HIH.out _ (HEX.out.kept (World.grownBy_alloc wr _ none))).mono ?_
            rintro e w7 ⟨hg7, p7, cap7, rfl, hv7⟩
            have HG7 : Hid (wr.grownBy w7 none) := Lib.hid (gb_trans (World.grownBy_alloc wr _ none) hg7)
            have HV7 := Lib.hid hv7
            have HO7 : Hid (OwnG 1 3 w7 (b + 1) u3 (one (intsV ((ps : Int) :: atsK (ks.take k))))) := Lib.hid (HO.out.kept HG7.out)
            have HS7 : Hid (b + 1 ≤ w7.heap.size) := Lib.hid (by have := HG7.out.size; have := HGR.out.size; have := HSA.out; omega)
            clear hg7 hv7 HIH c0 c1 c2 c3 c4 c5 c6 c7 hgl HO
            go_wp2_with (at_builtin; go_loud (refine wpList_appGs (s := 1) (t := 52) (T := 3) (by decide) Tryz.underlying52 infoI rfl (by omega) rfl _ _ rfl (b + 1) (one (intsV ((ps : Int) :: atsK (ks.take k)))) (one (intsV ax)) (one_wid (intsV_one _)) u3 rfl HO7.out p7 ax.length cap7 rfl (by rw [one_len, intsV_len]) (g_of_v HV7.out) HLX.out.2 HLX.out.1 HS7.out ?_))
            intro p9 n9 cap9 w9 hn9 hO9 hB9 _
            have HO2 : Hid (OwnG 1 3 w9 (b + 1) (.slice p9 n9 cap9) (one (intsV ((ps : Int) :: atsK (ks.take (k + 1)))))) := Lib.hid (by rw [HNX.out, ← List.cons_append, intsV_append, one_append]; exact hO9)
            have HG2 : Hid (WA.grownBy w9 none) := Lib.hid (below_gb (Below.trans2 (gb_below (gb_trans HGR.out HG7.out)) (by rw [HSA.out]; exact hB9)))
            clear hO9 hB9 HG7 HV7 HS7 hn9 HO7
            go_wp2_with fail
            go_roundw
            case rel => exact ⟨k + 1, by omega, by go_num, HO2, HG2⟩
            case measure => (simp [intOf] <;> omega)
        · obtain rfl : k = kl := by omega
          have hat : (ps : Int) :: atsK (ks.take k) = AT := by
            rw [← HAT.out, List.take_of_length_le (by rw [HKL.out]; exact Nat.le_refl _)]; simp only [atsE]
          obtain ⟨p9, c9, e9, hv9, -⟩ := HO.out.is
          rw [one_len, intsV_len, hat] at e9
          rw [hat] at hv9
          subst e9
          have HV9 := Lib.hid (v_of_g hv9)
          clear hv9 hat HO
          go_wp2_with fail
          go_ret
          exact ⟨HGW.out, _, _, rfl, HV9.out⟩
end Go.Proofs.YtdilncefhfbgeaaGreatDoor
namespace Go.Proofs.YtdilncefhfbgeaaGreatDoor
open Go.RowKit

mutual
/-- Seven cells read as an expression of the document's; all its memory lies in F. -/
def RAt (F : Nat → Prop) (w : World) : Ex → List Value → Prop
  | .mk op nm md nu ys ks ps, q => ∃ pk ck rows, q = [.int .i64 (op : Int), strV nm, strV md, strV nu, .bool ys, .slice pk ks.length ck, .int .i64 (ps : Int)] ∧ GAt 7 w pk rows ∧ LsR F w ks rows ∧ (ks ≠ [] → ∃ a, pk = some a ∧ F a.block)
def LsR (F : Nat → Prop) (w : World) : List Ex → List (List Value) → Prop
  | [], r => r = []
  | x :: l, r => ∃ q r', r = q :: r' ∧ RAt F w x q ∧ LsR F w l r'
end

theorem Lr_len {F : Nat → Prop} {w : World} : ∀ {l : List Ex} {r : List (List Value)}, LsR F w l r → r.length = l.length
  | [], r, h => by simp only [LsR] at h; rw [h]; rfl
  | x :: l, r, h => by
    simp only [LsR] at h
    obtain ⟨q, r', rfl, -, h2⟩ := h
    rw [List.length_cons, Lr_len h2]; rfl
theorem Lr_get {F : Nat → Prop} {w : World} : ∀ {l : List Ex} {r : List (List Value)} {j : Nat} {x : Ex}, LsR F w l r → l[j]? = some x → ∃ q, r[j]? = some q ∧ RAt F w x q
  | [], r, j, x, h, hx => by simp at hx
  | y :: l, r, j, x, h, hx => by
    simp only [LsR] at h
    obtain ⟨q, r', rfl, h1, h2⟩ := h
    match j, hx with
    | 0, hx => simp at hx; subst hx; exact ⟨q, rfl, h1⟩
    | j + 1, hx =>
      obtain ⟨q', hq, hr⟩ := Lr_get h2 (j := j) (by simpa using hx)
      exact ⟨q', by simpa using hq, hr⟩
theorem Lr_snoc {F : Nat → Prop} {w : World} {x : Ex} {q : List Value} (hx : RAt F w x q) : ∀ {l : List Ex} {r : List (List Value)}, LsR F w l r → LsR F w (l ++ [x]) (r ++ [q])
  | [], r, h => by simp only [LsR] at h; subst h; simp only [List.nil_append, LsR]; exact ⟨q, [], rfl, hx, rfl⟩
  | y :: l, r, h => by
    simp only [LsR] at h
    obtain ⟨q', r', rfl, h1, h2⟩ := h
    simp only [List.cons_append, LsR]
    exact ⟨q', _, rfl, h1, Lr_snoc hx h2⟩
theorem gat7_same {S F : Nat → Prop} {w w' : World} {p : Option Addr} {rows : List (List Value)} {n : Nat} (hr : rows.length = n) (h : GAt 7 w p rows) (hF : 0 < n → ∃ a, p = some a ∧ F a.block) (hg : Fr2 S w w') (hS : ∀ k, F k → ¬ S k) : GAt 7 w' p rows :=
  h.keptS hg (fun h0 a ha => by
    obtain ⟨b, hb, h1⟩ := hF (by have := List.length_pos_iff.2 h0; omega)
    rw [ha] at hb; injection hb with hb; subst hb; exact hS _ h1)
mutual
theorem RAt.same {F S : Nat → Prop} {w w' : World} (hg : Fr2 S w w') (hS : ∀ k, F k → ¬ S k) : ∀ {x : Ex} {q : List Value}, RAt F w x q → RAt F w' x q
  | .mk op nm md nu ys ks ps, q, h => by
    simp only [RAt] at h ⊢
    obtain ⟨pk, ck, rows, h1, h3, h4, h5⟩ := h
    exact ⟨pk, ck, rows, h1, gat7_same (Lr_len h4) h3 (fun h0 => h5 (List.length_pos_iff.1 h0)) hg hS, LsR.same hg hS h4, h5⟩
theorem LsR.same {F S : Nat → Prop} {w w' : World} (hg : Fr2 S w w') (hS : ∀ k, F k → ¬ S k) : ∀ {l : List Ex} {r : List (List Value)}, LsR F w l r → LsR F w' l r
  | [], r, h => by simp only [LsR] at h ⊢; exact h
  | x :: l, r, h => by
    simp only [LsR] at h ⊢
    obtain ⟨q, r', h1, h2, h3⟩ := h
    exact ⟨q, r', h1, RAt.same hg hS h2, LsR.same hg hS h3⟩
end
mutual
theorem RAt.mono {F F' : Nat → Prop} {w : World} (hF : ∀ k, F k → F' k) : ∀ {x : Ex} {q : List Value}, RAt F w x q → RAt F' w x q
  | .mk op nm md nu ys ks ps, q, h => by
    simp only [RAt] at h ⊢
    obtain ⟨pk, ck, rows, h1, h3, h4, h5⟩ := h
    exact ⟨pk, ck, rows, h1, h3, LsR.mono hF h4, fun h0 => by obtain ⟨a, ha, h6⟩ := h5 h0; exact ⟨a, ha, hF _ h6⟩⟩
theorem LsR.mono {F F' : Nat → Prop} {w : World} (hF : ∀ k, F k → F' k) : ∀ {l : List Ex} {r : List (List Value)}, LsR F w l r → LsR F' w l r
  | [], r, h => by simp only [LsR] at h ⊢; exact h
  | x :: l, r, h => by
    simp only [LsR] at h ⊢
    obtain ⟨q, r', h1, h2, h3⟩ := h
    exact ⟨q, r', h1, RAt.mono hF h2, LsR.mono hF h3⟩
end
theorem RAt.kept {F : Nat → Prop} {w w' : World} {x : Ex} {q : List Value} (h : RAt F w x q) (hg : w.grownBy w' none) : RAt F w' x q := RAt.same (S := fun _ => False) (Fr2.none hg) (fun _ _ h => h) h
theorem LsR.kept {F : Nat → Prop} {w w' : World} {l : List Ex} {r : List (List Value)} (h : LsR F w l r) (hg : w.grownBy w' none) : LsR F w' l r := LsR.same (S := fun _ => False) (Fr2.none hg) (fun _ _ h => h) h

mutual
theorem RAt.bound {F : Nat → Prop} {w : World} : ∀ {x : Ex} {q : List Value}, RAt F w x q → RAt (fun k => F k ∧ k < w.heap.size) w x q
  | .mk op nm md nu ys ks ps, q, h => by
    simp only [RAt] at h ⊢
    obtain ⟨pk, ck, rows, h1, h3, h4, h5⟩ := h
    refine ⟨pk, ck, rows, h1, h3, LsR.bound h4, fun h0 => ?_⟩
    obtain ⟨a, ha, h6⟩ := h5 h0
    have hr := Lr_len h4
    exact ⟨a, ha, h6, GAt.blk h3 (fun e => by rw [e] at hr; exact h0 (List.eq_nil_of_length_eq_zero hr.symm)) a ha⟩
theorem LsR.bound {F : Nat → Prop} {w : World} : ∀ {l : List Ex} {r : List (List Value)}, LsR F w l r → LsR (fun k => F k ∧ k < w.heap.size) w l r
  | [], r, h => by simp only [LsR] at h ⊢; exact h
  | x :: l, r, h => by
    simp only [LsR] at h ⊢
    obtain ⟨q, r', h1, h2, h3⟩ := h
    exact ⟨q, r', h1, RAt.bound h2, LsR.bound h3⟩
end

theorem RAt.len {F : Nat → Prop} {w : World} {x : Ex} {q : List Value} (h : RAt F w x q) : q.length = 7 := by
  cases x with
  | mk op nm md nu ys ks ps =>
    simp only [RAt] at h
    obtain ⟨pk, ck, rows, rfl, -⟩ := h
    rfl
theorem RAt.one {F : Nat → Prop} {w : World} {x : Ex} {q : List Value} (h : RAt F w x q) : q.length = 7 ∧ ∀ u ∈ q, u.oneCell' = true := by
  cases x with
  | mk op nm md nu ys ks ps =>
    simp only [RAt] at h
    obtain ⟨pk, ck, rows, rfl, -⟩ := h
    exact ⟨rfl, fun u hu => by simp at hu; rcases hu with rfl | rfl | rfl | rfl | rfl | rfl | rfl <;> rfl⟩

end Go.Proofs.YtdilncefhfbgeaaGreatDoor
namespace Go.Proofs.YtdilncefhfbgeaaGreatDoor
open Go.RowKit

theorem conv_at (W : World) (H : Nat) (Y : Int) (x : UInt8) (hx : (x.toNat : Int) = Y) (hb : W.heap[H]? = some (.cells #[.int .u8 Y] 5 (0, 0))) : (convert 115 9 (.slice (some ⟨H, 0, none⟩) 1 1)).run Tryz.prog W = .ok (.string ⟨#[x]⟩) W := by
  subst hx
  have := run_convert_bytes_back (P := Tryz.prog) W 115 9 5 ⟨H, 0, none⟩ 1 [x] Tryz.underlying115 Tryz.underlying5 Tryz.underlying9 (fun j hj => by
    have hj0 : j = 0 := by simp at hj; omega
    subst hj0
    rw [Addr.add_lit, cell_of_row _ H (0 + 0) _ 5 (0, 0) hb]
    simp)
  exact this

def TextIs (l : List UInt8) (w : World) (e : Ending) (w' : World) : Prop := w.grownBy w' none ∧ e = .returned (.string ⟨l.toArray⟩)

set_option maxRecDepth 100000 in
set_option maxHeartbeats 4000000 in
theorem digit1_c (k : Nat) (h1 : k < 10) (w : World) : Calls Tryz.prog 69 #[.int .i64 (k : Int)] w (TextIs (decN k) w) := by
  have d1 : decide ((k : Int) < 10) = true := decide_eq_true (by omega)
  have d1' : decide (k < 10) = true := decide_eq_true h1
  have hc := conv_at (w.alloc (.cells #[.int .u8 (48 + (k : Int))] 5)) w.heap.size (48 + (k : Int)) (UInt8.ofNat (48 + k)) (by rw [UInt8.toNat_ofNat']; omega) (heap_alloc_new _ _)
  have HD : Hid (decN k = [UInt8.ofNat (48 + k)]) := Lib.hid (by unfold decN; rw [if_pos h1])
  generalize UInt8.ofNat (48 + k) = x at *
  go_enter Tryz.func69, Tryz.ntmps69
  go_wp2_with fail
  go_ret
  exact ⟨gb_alloc (gb_refl _ _) _, by rw [HD.out]; rfl⟩

set_option maxRecDepth 100000 in
set_option maxHeartbeats 8000000 in
theorem digits_c (k : Nat) (h1 : k < 100) (w : World) : Calls Tryz.prog 69 #[.int .i64 (k : Int)] w (TextIs (decN k) w) := by
  by_cases h2 : k < 10
  · exact digit1_c k h2 w
  · have d1 : decide ((k : Int) < 10) = false := decide_eq_false (by omega)
    have d1' : decide (k < 10) = false := decide_eq_false h2
    obtain ⟨q, hqk⟩ : ∃ q, k / 10 = q := ⟨_, rfl⟩
    have hq : (k : Int).tdiv 10 = (q : Int) := by rw [Int.tdiv_eq_ediv_of_nonneg (by omega)]; omega
    have hq10 : q < 10 := by omega
    obtain ⟨r, hrk⟩ : ∃ r, k % 10 = r := ⟨_, rfl⟩
    have hr : (k : Int).tmod 10 = (r : Int) := by rw [Int.tmod_eq_emod_of_nonneg (by omega)]; omega
    have hr10 : r < 10 := by omega
    have hw1 : IntKind.i64.wrap (48 + (r : Int)) = 48 + (r : Int) := IntWalk.i64_in _ (by omega)
    have hw2 : IntKind.u8.wrap (48 + (r : Int)) = 48 + (r : Int) := by rw [IntKind.wrap_u8]; omega
    have hw3 : IntKind.i64.wrap (q : Int) = (q : Int) := IntWalk.i64_in _ (by omega)
    obtain ⟨x, hx⟩ : ∃ x, UInt8.ofNat (48 + r) = x := ⟨_, rfl⟩
    have hxn : (x.toNat : Int) = 48 + (r : Int) := by rw [← hx, UInt8.toNat_ofNat']; omega
    obtain ⟨z, hz⟩ : ∃ z, UInt8.ofNat (48 + q) = z := ⟨_, rfl⟩
    have HD : Hid (decN k = [z, x]) := Lib.hid (by unfold decN; rw [if_neg h2, hqk, hrk, hx, hz])
    have HDQ : Hid (decN q = [z]) := Lib.hid (by unfold decN; rw [if_pos hq10, hz])
    have HCV := Lib.hid (fun W H hb => conv_at W H (48 + (r : Int)) x hxn hb)
    have H1 := Lib.hid (fun W => (show Calls Tryz.prog 69 #[.int .i64 (q : Int)] W (TextIs [z] W) from by rw [← HDQ.out]; exact digit1_c q hq10 W))
    have hc0 := conv_at (w.alloc (.cells #[.int .u8 (48 + (r : Int))] 5)).drew w.heap.size (48 + (r : Int)) x hxn (heap_alloc_new w _)
    have HXN := Lib.hid hxn
    clear hx hxn hrk hqk hz
    go_enter Tryz.func69, Tryz.ntmps69
    go_wp2_with fail
    go_region_with (go_at_call 69; refine (H1.out _).mono ?_; rintro e w7 ⟨hg7, rfl⟩; have HG7 := Lib.hid hg7; have hc7 := conv_at (w7.alloc (.cells #[.int .u8 (48 + (r : Int))] 5)) w7.heap.size (48 + (r : Int)) x HXN.out (heap_alloc_new w7 _); try (have hc8 := HCV.out w7 w.heap.size (bx hg7 (heap_alloc_new w _))); clear hg7)
    all_goals
      go_wp2_with fail
      go_ret
      refine ⟨?_, by rw [HD.out]; rfl⟩
      first
        | exact gb_alloc (gb_trans (gb_drew (gb_refl _ _)) HG7.out) _
        | exact gb_trans (gb_drew (gb_alloc (gb_refl _ _) _)) HG7.out
        | exact gb_trans (gb_alloc (gb_drew (gb_refl _ _)) _) HG7.out
end Go.Proofs.YtdilncefhfbgeaaGreatDoor
