/- Lemmas. -/
import Derived.Test.YtijpelkjeejjfaaGreatDoorP46
set_option linter.unusedVariables false
set_option linter.unusedSimpArgs false
namespace Go.Proofs.YtijpelkjeejjfaaGreatDoor
open Go.RowKit

set_option maxRecDepth 100000 in
set_option maxHeartbeats 16000000 in
theorem rtwo_c (op : Int) (h7 : 7 ≤ op) (h20 : op ≤ 20) (sn sm su : ByteArray) (ys : Bool) (g off ck : Nat) (ps : Int) (a0 a1 a2 a3 a4 a5 a6 b0 b1 b2 b3 b4 b5 b6 : Value) (wA wB : Nat → List UInt8) (w : World) (hgw : g < w.heap.size)
    (hc : ∀ i v, [a0, a1, a2, a3, a4, a5, a6, b0, b1, b2, b3, b4, b5, b6][i]? = some v → w.cell? ⟨g, off + i, none⟩ = some v)
    (HA : ∀ (l : Int) W, 0 ≤ l → w.grownBy W none → Calls Tryz.prog 17 #[.agg #[a0, a1, a2, a3, a4, a5, a6], .int .i64 l] W (StrX (wA l.toNat) W))
    (HB : ∀ (l : Int) W, 0 ≤ l → w.grownBy W none → Calls Tryz.prog 17 #[.agg #[b0, b1, b2, b3, b4, b5, b6], .int .i64 l] W (StrX (wB l.toNat) W))
    (hA : ∀ l, (wA l).length ≤ 1000000000) (hB : ∀ l, (wB l).length ≤ 1000000000) :
    Calls Tryz.prog 19 #[.agg #[.int .i64 op, .string sn, .string sm, .string su, .bool ys, .slice (some ⟨g, off, none⟩) 2 ck, .int .i64 ps]] w (StrX (wA (sideA (levS op)) ++ ([32] ++ signS op ++ [32]) ++ wB (sideB (levS op))) w) := by
  have HLV := Lib.hid (rlevel_c op (by omega) (by omega))
  have HAA := Lib.hid HA; have HBB := Lib.hid HB; have HLA := Lib.hid hA; have HLB := Lib.hid hB; have HC := Lib.hid hc
  obtain ⟨j, rfl⟩ : ∃ j : Nat, op = ((7 + j : Nat) : Int) := ⟨(op - 7).toNat, by omega⟩
  have hj : j < 14 := by omega
  obtain ⟨op, hop⟩ : ∃ op : Int, ((7 + j : Nat) : Int) = op := ⟨_, rfl⟩
  obtain ⟨cs, hcs⟩ : ∃ cs : Array Value, #[Value.string ⟨#[43]⟩, .string ⟨#[45]⟩, .string ⟨#[42]⟩, .string ⟨#[47]⟩, .string ⟨#[37]⟩, .string ⟨#[61]⟩, .string ⟨#[60, 62]⟩, .string ⟨#[60]⟩, .string ⟨#[60, 61]⟩, .string ⟨#[62]⟩, .string ⟨#[62, 61]⟩, .string ⟨#[38, 38]⟩, .string ⟨#[124, 124]⟩, .string ⟨#[61, 62]⟩] = cs := ⟨_, rfl⟩
  have hsz : cs.size = 14 := by rw [← hcs]; rfl
  have hone : cs.all (·.oneCell') = true := by rw [← hcs]; kernel_rfl
  obtain ⟨sg, hsg⟩ : ∃ sg : List UInt8, signS op = sg := ⟨_, rfl⟩
  have hat : cs.toList[j]? = some (.string ⟨sg.toArray⟩) := by
    rw [← hcs, ← hsg, ← hop]
    have : j = 0 ∨ j = 1 ∨ j = 2 ∨ j = 3 ∨ j = 4 ∨ j = 5 ∨ j = 6 ∨ j = 7 ∨ j = 8 ∨ j = 9 ∨ j = 10 ∨ j = 11 ∨ j = 12 ∨ j = 13 := by omega
    rcases this with rfl | rfl | rfl | rfl | rfl | rfl | rfl | rfl | rfl | rfl | rfl | rfl | rfl | rfl <;> rfl
  have hsl : sg.length ≤ 2 := by rw [← hsg]; exact signT_len op
  obtain ⟨l, hl⟩ : ∃ l : Nat, levS op = l := ⟨_, rfl⟩
  have hl9 : l ≤ 9 := by rw [← hl]; unfold levS; repeat' (first | omega | split)
  rw [hop] at HLV ⊢
  rw [hl] at HLV ⊢
  rw [hsg]
  have hw7 : IntKind.i64.wrap (op - 7) = (j : Int) := by rw [IntWalk.i64_in _ (by omega)]; omega
  have HO := Lib.hid hone; have HS := Lib.hid hsz; have HAT := Lib.hid hat; have HSL := Lib.hid hsl; have HJ := Lib.hid hj; have HW7 := Lib.hid hw7; have HL9 := Lib.hid hl9
  have HGW := Lib.hid hgw
  clear HA HB hA hB hc hone hsz hat hsl hj hop hsg hl h7 h20 hw7 hl9 hgw
  obtain ⟨R, hR⟩ : ∃ R, wA (sideA l) ++ ([32] ++ sg ++ [32]) ++ wB (sideB l) = R := ⟨_, rfl⟩
  rw [hR]
  have HR := Lib.hid hR
  clear hR
  go_enter Tryz.func19, Tryz.ntmps19
  go_upto_region 1 with fail
  have hgA := World.grownBy_alloc w (.cells #[.int .i64 op, .string sn, .string sm, .string su, .bool ys, .slice (some ⟨g, off, none⟩) 2 ck, .int .i64 ps] 34) none
  have hbA := heap_alloc_new w (.cells #[.int .i64 op, .string sn, .string sm, .string su, .bool ys, .slice (some ⟨g, off, none⟩) 2 ck, .int .i64 ps] 34)
  generalize (w.alloc (.cells #[.int .i64 op, .string sn, .string sm, .string su, .bool ys, .slice (some ⟨g, off, none⟩) 2 ck, .int .i64 ps] 34)) = WA at *
  obtain ⟨b, hb⟩ : ∃ b, w.heap.size = b := ⟨_, rfl⟩
  rw [hb] at hbA ⊢
  have HGA := Lib.hid hgA; have HBA := Lib.hid hbA
  clear hgA hbA hb
  refine wp_region_lit ?_
  refine wpList_plain rfl (fun K hK => ?_)
  go_simp
  refine hK _ _ ?_
  clear hK
  refine wpList_plain rfl (fun K hK => ?_)
  go_simp
  refine hK _ _ ?_
  clear hK
  generalize hzs : #[Value.string ⟨#[]⟩, .string ⟨#[]⟩, .string ⟨#[]⟩, .string ⟨#[]⟩, .string ⟨#[]⟩, .string ⟨#[]⟩, .string ⟨#[]⟩, .string ⟨#[]⟩, .string ⟨#[]⟩, .string ⟨#[]⟩, .string ⟨#[]⟩, .string ⟨#[]⟩, .string ⟨#[]⟩, .string ⟨#[]⟩] = zs
  have hzz : zs.size = cs.size := by rw [HS.out, ← hzs]; rfl
  obtain ⟨hth, hg, hcl⟩ := fresh_cells WA zs cs 81 hzz
  have HGJ := Lib.hid (hcl j _ HAT.out)
  clear hzs hcs hcl hzz
  refine wpList_store_mid rfl 81 (Operand.tmp 3) (Operand.tmp 7) rfl WA.heap.size 0 cs rfl rfl hth (by rw [HS.out]; kernel_rfl) HO.out ?_
  clear hth
  generalize (WA.alloc (.cells zs 81)).setCells WA.heap.size 0 cs.toList = W at *
  obtain ⟨gs, hgs⟩ : ∃ gs, WA.heap.size = gs := ⟨_, rfl⟩
  rw [hgs] at HGJ ⊢
  have HGW2 := Lib.hid (gb_trans HGA.out hg)
  have HBW := Lib.hid (bx hg HBA.out)
  clear hgs hg HGA HBA
  obtain ⟨c0, c1, c2, c3, c4, c5, c6, hbw⟩ := cells7x HBW.out
  go_wp2_with fail
  refine (HLV.out W).mono ?_
  rintro e w1 ⟨rfl, hg1⟩
  have HG1 := Lib.hid (gb_trans HGW2.out hg1)
  have HBW1 := Lib.hid (bx hg1 HBW.out)
  have HGJ1 := Lib.hid (hg1.cell HGJ.out (by simp))
  clear hg1 c0 c1 c2 c3 c4 c5 c6 hbw HBW HGJ HGW2 HLV
  have hw1 : IntKind.i64.wrap ((l : Int) + 1) = (l : Int) + 1 := IntWalk.i64_in _ (by have := HL9.out; omega)
  have hcase : (l ≠ 5 ∧ l ≠ 1) ∨ (l = 5) ∨ (l = 1) := by omega
  have hw7 := HW7.out
  have hj14 := HJ.out
  have x1 : (0 : Int) ≤ (j : Int) := by omega
  have x2 : (j : Int) < 14 := by omega
  have x3 : decide (j < 14) = true := decide_eq_true (by omega)
  have hsl := HSL.out
  rcases hcase with ⟨hl5, hl1⟩ | rfl | rfl
  focus
    have e5 : ((l : Int) == 5) = false := beq_eq_false_iff_ne.2 (by omega); have e1 : ((l : Int) == 1) = false := beq_eq_false_iff_ne.2 (by omega)
    obtain ⟨TA, hTA⟩ : ∃ TA, wA (((l : Int) : Int)).toNat = TA := ⟨_, rfl⟩
    obtain ⟨TB, hTB⟩ : ∃ TB, wB (((l : Int) + 1 : Int)).toNat = TB := ⟨_, rfl⟩
    have HCA := Lib.hid (fun W h => HAA.out ((l : Int)) W (by omega) h)
    have HCB := Lib.hid (fun W h => HBB.out ((l : Int) + 1) W (by omega) h)
    rw [hTA] at HCA
    rw [hTB] at HCB
    have HRR : Hid (R = TA ++ ([32] ++ sg ++ [32]) ++ TB) := Lib.hid (by rw [← HR.out, ← hTA, ← hTB]; rw [show sideA l = ((l : Int)).toNat by unfold sideA; rw [if_neg hl1, if_neg hl5]; omega, show sideB l = ((l : Int) + 1).toNat by unfold sideB; rw [if_neg hl1]; omega])
    have hla : TA.length ≤ 1000000000 := by rw [← hTA]; exact HLA.out _
    have hlb : TB.length ≤ 1000000000 := by rw [← hTB]; exact HLB.out _
    clear hTA hTB
    go_upto_region 10 with fail
  rotate_left 1
  focus
    obtain ⟨TA, hTA⟩ : ∃ TA, wA ((6 : Int)).toNat = TA := ⟨_, rfl⟩
    obtain ⟨TB, hTB⟩ : ∃ TB, wB ((6 : Int)).toNat = TB := ⟨_, rfl⟩
    have HCA := Lib.hid (fun W h => HAA.out (6) W (by omega) h)
    have HCB := Lib.hid (fun W h => HBB.out (6) W (by omega) h)
    rw [hTA] at HCA
    rw [hTB] at HCB
    have HRR : Hid (R = TA ++ ([32] ++ sg ++ [32]) ++ TB) := Lib.hid (by rw [← HR.out, ← hTA, ← hTB]; rfl)
    have hla : TA.length ≤ 1000000000 := by rw [← hTA]; exact HLA.out _
    have hlb : TB.length ≤ 1000000000 := by rw [← hTB]; exact HLB.out _
    clear hTA hTB
    go_upto_region 10 with fail
  rotate_left 1
  focus
    obtain ⟨TA, hTA⟩ : ∃ TA, wA ((2 : Int)).toNat = TA := ⟨_, rfl⟩
    obtain ⟨TB, hTB⟩ : ∃ TB, wB ((1 : Int)).toNat = TB := ⟨_, rfl⟩
    have HCA := Lib.hid (fun W h => HAA.out (2) W (by omega) h)
    have HCB := Lib.hid (fun W h => HBB.out (1) W (by omega) h)
    rw [hTA] at HCA
    rw [hTB] at HCB
    have HRR : Hid (R = TA ++ ([32] ++ sg ++ [32]) ++ TB) := Lib.hid (by rw [← HR.out, ← hTA, ← hTB]; rfl)
    have hla : TA.length ≤ 1000000000 := by rw [← hTA]; exact HLA.out _
    have hlb : TB.length ≤ 1000000000 := by rw [← hTB]; exact HLB.out _
    clear hTA hTB
    go_upto_region 10 with fail
  rotate_left 1
  all_goals
    clear HR
    have z1 : ¬ 9223372036854775807 < TA.length + 1 := by omega
    have z2 : ¬ 9223372036854775807 < TA.length + 1 + sg.length := by omega
    have z3 : ¬ 9223372036854775807 < TA.length + 1 + sg.length + 1 := by omega
    have z4 : ¬ 9223372036854775807 < TA.length + 1 + sg.length + 1 + TB.length := by omega
    obtain ⟨c0, c1, c2, c3, c4, c5, c6, hbw⟩ := cells7x HBW1.out
    have cj := HGJ1.out
    have d0 := HG1.out.cell (by have h0 := HC.out 0 _ rfl; rwa [Nat.add_zero] at h0) (by simp); have d1 := HG1.out.cell (HC.out 1 _ rfl) (by simp); have d2 := HG1.out.cell (HC.out 2 _ rfl) (by simp); have d3 := HG1.out.cell (HC.out 3 _ rfl) (by simp); have d4 := HG1.out.cell (HC.out 4 _ rfl) (by simp); have d5 := HG1.out.cell (HC.out 5 _ rfl) (by simp); have d6 := HG1.out.cell (HC.out 6 _ rfl) (by simp); have d7 := HG1.out.cell (HC.out 7 _ rfl) (by simp); have d8 := HG1.out.cell (HC.out 8 _ rfl) (by simp); have d9 := HG1.out.cell (HC.out 9 _ rfl) (by simp); have d10 := HG1.out.cell (HC.out 10 _ rfl) (by simp); have d11 := HG1.out.cell (HC.out 11 _ rfl) (by simp); have d12 := HG1.out.cell (HC.out 12 _ rfl) (by simp); have d13 := HG1.out.cell (HC.out 13 _ rfl) (by simp)
    have HL1 := Lib.hid hla; have HL2 := Lib.hid hlb; have HZ1 := Lib.hid z1; have HZ2 := Lib.hid z2; have HZ3 := Lib.hid z3; have HZ4 := Lib.hid z4
    go_region_held3 (fun w' => w'.cell? ⟨b, 5, none⟩ = some (.slice (some ⟨g, off, none⟩) 2 ck) ∧ w'.cell? ⟨b, 0, none⟩ = some (.int .i64 op) ∧ w'.cell? ⟨gs, j, none⟩ = some (.string ⟨sg.toArray⟩) ∧ w'.cell? ⟨g, off, none⟩ = some a0 ∧ w'.cell? ⟨g, off + 1, none⟩ = some a1 ∧ w'.cell? ⟨g, off + 2, none⟩ = some a2 ∧ w'.cell? ⟨g, off + 3, none⟩ = some a3 ∧ w'.cell? ⟨g, off + 4, none⟩ = some a4 ∧ w'.cell? ⟨g, off + 5, none⟩ = some a5 ∧ w'.cell? ⟨g, off + 6, none⟩ = some a6 ∧ w'.cell? ⟨g, off + 7, none⟩ = some b0 ∧ w'.cell? ⟨g, off + 8, none⟩ = some b1 ∧ w'.cell? ⟨g, off + 9, none⟩ = some b2 ∧ w'.cell? ⟨g, off + 10, none⟩ = some b3 ∧ w'.cell? ⟨g, off + 11, none⟩ = some b4 ∧ w'.cell? ⟨g, off + 12, none⟩ = some b5 ∧ w'.cell? ⟨g, off + 13, none⟩ = some b6)
      (first | with_reducible exact ⟨c5, c0, cj, d0, d1, d2, d3, d4, d5, d6, d7, d8, d9, d10, d11, d12, d13⟩ | go_keep)
      (first | (have h2z := HG2.out; go_at_call 17; refine (HCB.out w2 HG2.out).mono ?_; rintro e w3 ⟨rfl, hg3⟩; have HG3 := Lib.hid (gb_trans HG2.out hg3); have HG13 := Lib.hid (gb_trans HG12.out hg3); obtain ⟨c0, c1, c2, c3, c4, c5, c6, hbw⟩ := cells7x (bx HG13.out HBW1.out); have cj := HG13.out.cell HGJ1.out (by simp); have d0 := HG3.out.cell (by have h0 := HC.out 0 _ rfl; rwa [Nat.add_zero] at h0) (by simp); have d1 := HG3.out.cell (HC.out 1 _ rfl) (by simp); have d2 := HG3.out.cell (HC.out 2 _ rfl) (by simp); have d3 := HG3.out.cell (HC.out 3 _ rfl) (by simp); have d4 := HG3.out.cell (HC.out 4 _ rfl) (by simp); have d5 := HG3.out.cell (HC.out 5 _ rfl) (by simp); have d6 := HG3.out.cell (HC.out 6 _ rfl) (by simp); have d7 := HG3.out.cell (HC.out 7 _ rfl) (by simp); have d8 := HG3.out.cell (HC.out 8 _ rfl) (by simp); have d9 := HG3.out.cell (HC.out 9 _ rfl) (by simp); have d10 := HG3.out.cell (HC.out 10 _ rfl) (by simp); have d11 := HG3.out.cell (HC.out 11 _ rfl) (by simp); have d12 := HG3.out.cell (HC.out 12 _ rfl) (by simp); have d13 := HG3.out.cell (HC.out 13 _ rfl) (by simp); clear hg3) | (go_at_call 17; refine (HCA.out w1.drew (gb_trans HG1.out (gb_drew (gb_refl _ _)))).mono ?_; rintro e w2 ⟨rfl, hg2⟩; have HG2 := Lib.hid (gb_trans (gb_trans HG1.out (show w1.grownBy _ none from (by repeat (first | with_reducible exact gb_refl _ _ | with_reducible refine gb_drew ?_ | with_reducible refine gb_alloc ?_ _)))) hg2); have HG12 := Lib.hid (gb_trans (show w1.grownBy _ none from (by repeat (first | with_reducible exact gb_refl _ _ | with_reducible refine gb_drew ?_ | with_reducible refine gb_alloc ?_ _))) hg2); obtain ⟨c0, c1, c2, c3, c4, c5, c6, hbw⟩ := cells7x (bx HG12.out HBW1.out); have cj := HG12.out.cell HGJ1.out (by simp); have d0 := HG2.out.cell (by have h0 := HC.out 0 _ rfl; rwa [Nat.add_zero] at h0) (by simp); have d1 := HG2.out.cell (HC.out 1 _ rfl) (by simp); have d2 := HG2.out.cell (HC.out 2 _ rfl) (by simp); have d3 := HG2.out.cell (HC.out 3 _ rfl) (by simp); have d4 := HG2.out.cell (HC.out 4 _ rfl) (by simp); have d5 := HG2.out.cell (HC.out 5 _ rfl) (by simp); have d6 := HG2.out.cell (HC.out 6 _ rfl) (by simp); have d7 := HG2.out.cell (HC.out 7 _ rfl) (by simp); have d8 := HG2.out.cell (HC.out 8 _ rfl) (by simp); have d9 := HG2.out.cell (HC.out 9 _ rfl) (by simp); have d10 := HG2.out.cell (HC.out 10 _ rfl) (by simp); have d11 := HG2.out.cell (HC.out 11 _ rfl) (by simp); have d12 := HG2.out.cell (HC.out 12 _ rfl) (by simp); have d13 := HG2.out.cell (HC.out 13 _ rfl) (by simp); clear hg2) | fail)
    all_goals
      go_wp2_with fail
      go_ret
      have hR9 : R = TA ++ [32] ++ sg ++ [32] ++ TB := by rw [HRR.out]; simp
      exact ⟨by rw [hR9, ba_cat, ba_cat, ba_cat, ba_cat]; rfl, HG3.out⟩
end Go.Proofs.YtijpelkjeejjfaaGreatDoor
