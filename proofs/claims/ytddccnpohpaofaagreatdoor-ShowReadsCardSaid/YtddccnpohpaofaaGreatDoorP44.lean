/- Lemmas. -/
import Derived.Test.YtddccnpohpaofaaGreatDoorP41
set_option linter.unusedVariables false
set_option linter.unusedSimpArgs false
namespace Go.Proofs.YtddccnpohpaofaaGreatDoor
open Go.RowKit

theorem res_at (w : World) : SAt (fun _ => False) w (.mk 4 [] [] 0 false [] 0) [.int .i64 4, .string ⟨#[]⟩, .string ⟨#[]⟩, .bool false, .slice none 0 0, .bool false, .slice none 0 0, .int .i64 0] := by
  simp only [SAt]
  exact ⟨false, none, 0, 0, none, 0, [], rfl, Zd.zero_int w, fun h => absurd h (by omega), GAt.nil, LsS.nil, fun h => absurd rfl h⟩
theorem res_right : rightB false (.mk 4 [] [] 0 false [] 0) = false := by simp [rightB, mayB]
set_option maxRecDepth 100000 in
set_option maxHeartbeats 16000000 in
theorem anchor9_c (w : World) (hla : LaidE w) (hls : LaidS w) (hlw : LaidW w) : Calls Tryz.prog 4 #[] w (ValPost (.bool true) w) := by
  have HRD := Lib.hid (read9_c w hla hls)
  have HLE := Lib.hid (fun W (h : w.grownBy W none) => hla.kept h)
  have HLW : Hid (∀ W, w.grownBy W none → LaidW W) := Lib.hid (fun W h j t hj => h.cell (hlw j t hj) (by simp))
  have HBD := Lib.hid (fun W (h : w.grownBy W none) => Body_c (fun _ => False) (.mk 4 [] [] 0 false [] 0) _ W (HLE.out W h) (HLW.out W h) (res_at W) (fun _ h => h.elim) (by simp [sizS, sizSs]) (by simp [okS, okSs, lim0]) (by simp [wgS, wgSs]) (by simp [txS, txSs, nodeT]))
  clear hla hls hlw
  go_enter Tryz.func4, Tryz.ntmps4
  go_wp2_with fail
  refine HRD.out.mono ?_
  rintro e w1 ⟨hg1, q, rfl, hx⟩
  have HFO := Lib.hid (fun W (h : w1.grownBy W none) => Formula_c _ exS9 q W (HLE.out W (gb_trans hg1 h)) (HLW.out W (gb_trans hg1 h)) (hx.kept h) (fun k hk => Nat.lt_of_lt_of_le hk h.size) exS9_siz exS9_ok exS9_wg (by rw [exS9_text]; decide))
  have HG1 := Lib.hid hg1
  have hs8 := hx
  unfold exS9 at hs8
  simp only [SAt] at hs8
  obtain ⟨s8, pw, nw, cw, pk, ck, rows, rfl, -⟩ := hs8
  clear hg1 hx HRD
  unfold strV at *
  simp only [List.length_cons, List.length_nil, Nat.zero_add] at *
  have hg2 := World.grownBy_alloc w1 (.cells #[.int .i64 6, .string ⟨#[]⟩, .string ⟨#[]⟩, .bool s8, .slice pw nw cw, .bool false, .slice pk 1 ck, .int .i64 0] 30) none
  have hb2 := heap_alloc_new w1 (.cells #[.int .i64 6, .string ⟨#[]⟩, .string ⟨#[]⟩, .bool s8, .slice pw nw cw, .bool false, .slice pk 1 ck, .int .i64 0] 30)
  go_upto_region 2 with fail
  generalize (w1.alloc (.cells #[.int .i64 6, .string ⟨#[]⟩, .string ⟨#[]⟩, .bool s8, .slice pw nw cw, .bool false, .slice pk 1 ck, .int .i64 0] 30)) = W2 at *
  obtain ⟨b, hb⟩ : ∃ b, w1.heap.size = b := ⟨_, rfl⟩
  rw [hb] at hb2 ⊢
  have HFO2 := Lib.hid (HFO.out W2 hg2)
  have HG2 := Lib.hid (gb_trans HG1.out hg2)
  obtain ⟨c0, c1, c2, c3, c4, c5, c6, c7⟩ := cells8u hb2
  have hbw : b < W2.heap.size := hlt hb2
  clear hb hb2 hg2 HFO
  have hr9 := exS9_right
  have ht9 := exS9_text
  go_wp2_with fail
  refine HFO2.out.mono ?_
  rintro e w3 ⟨rfl, hg3⟩
  rw [hr9, ht9]
  have HG3 := Lib.hid (gb_trans HG2.out hg3)
  clear hg3 c0 c1 c2 c3 c4 c5 c6 c7 hbw hr9 ht9
  go_wp2_with fail
  refine (HBD.out w3 HG3.out).mono ?_
  rintro e w4 ⟨rfl, hg4⟩
  rw [res_right]
  have HG4 := Lib.hid (gb_trans HG3.out hg4)
  clear hg4
  go_wp2_with fail
  go_ret
  exact ⟨rfl, HG4.out⟩
end Go.Proofs.YtddccnpohpaofaaGreatDoor
