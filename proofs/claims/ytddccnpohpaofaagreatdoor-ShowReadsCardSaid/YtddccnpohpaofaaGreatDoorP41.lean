/- Lemmas. -/
import Derived.Test.YtddccnpohpaofaaGreatDoorP40
set_option linter.unusedVariables false
set_option linter.unusedSimpArgs false
namespace Go.Proofs.YtddccnpohpaofaaGreatDoor
open Go.RowKit

mutual
/-- What was read, as an expression of any Op. -/
def exS : Ex → Sx
  | .mk op nm md nu ys ks ps => .mk op nm md (if op = 1 then Zd.parseV nu else 0) ys (exSs ks) ps
def exSs : List Ex → List Sx
  | [] => []
  | x :: l => exS x :: exSs l
end
theorem exSs_len : ∀ l : List Ex, (exSs l).length = l.length
  | [] => rfl
  | x :: l => by simp only [exSs, List.length_cons, exSs_len l]
mutual
theorem sat_of {F : Nat → Prop} {w : World} : ∀ {x : Ex} {q : List Value}, EAt F w x q → SAt F w (exS x) q
  | .mk op nm md nu ys ks ps, q, h => by
    simp only [EAt] at h
    obtain ⟨s, pw, nw, cw, pk, ck, rows, rfl, hn, hg, hl, hf⟩ := h
    simp only [exS, SAt]
    have hi : Zd.IsInt w (.agg #[.bool s, .slice pw nw cw]) (if op = 1 then Zd.parseV nu else 0) ∧ (0 < nw → ∃ a, pw = some a ∧ F a.block) := by
      unfold NumAt at hn
      by_cases h1 : op = 1
      · rw [if_pos h1] at hn ⊢; exact ⟨hn.1, hn.2.2⟩
      · rw [if_neg h1] at hn ⊢; exact hn
    refine ⟨s, pw, nw, cw, pk, ck, rows, by rw [exSs_len], hi.1, hi.2, hg, ls_of hl, fun h0 => ?_⟩
    obtain ⟨a, ha, h1, h2⟩ := hf (fun e => h0 (by rw [e]; rfl))
    exact ⟨a, ha, h1, h2⟩
theorem ls_of {F : Nat → Prop} {w : World} : ∀ {l : List Ex} {r : List (List Value)}, LsE F w l r → LsS F w (exSs l) r
  | [], r, h => by simp only [LsE] at h; simp only [exSs, LsS]; exact h
  | x :: l, r, h => by
    simp only [LsE] at h
    obtain ⟨q, r', h1, h2, h3⟩ := h
    simp only [exSs, LsS]
    exact ⟨q, r', h1, sat_of h2, ls_of h3⟩
end
def exF9 : List UInt8 := [110, 111, 116, 40, 97, 38, 38, 45, 40, 98, 43, 49, 41, 60, 99, 41]
theorem exF9_ok : (ansQ exF9 200 true).2.1 = 0 := by kernel_rfl
def exX9 : Ex := .mk 6 [] [] [] false [.mk 18 [] [] [] false [.mk 3 [97] [] [] false [] 4, .mk 14 [] [] [] false [.mk 5 [] [] [] false [.mk 7 [] [] [] false [.mk 3 [98] [] [] false [] 9, .mk 1 [] [] [49] false [] 11] 10] 7, .mk 3 [99] [] [] false [] 14] 13] 5] 0
theorem exF9_form : formE exF9 200 = exX9 := by kernel_rfl
def exS9 : Sx := .mk 6 [] [] 0 false [.mk 18 [] [] 0 false [.mk 3 [97] [] 0 false [] 4, .mk 14 [] [] 0 false [.mk 5 [] [] 0 false [.mk 7 [] [] 0 false [.mk 3 [98] [] 0 false [] 9, .mk 1 [] [] 1 false [] 11] 10] 7, .mk 3 [99] [] 0 false [] 14] 13] 5] 0
theorem one9 : Zd.parseV [49] = 1 := by kernel_rfl
theorem exS9_is : exS exX9 = exS9 := by simp [exX9, exS, exSs, exS9, one9]
theorem one9_txt : Zd.txtL 1 = [49] := by rw [← one9, Zd.txtL_parse (by kernel_rfl)]
theorem exS9_right : rightB true exS9 = true := by
  simp only [exS9, rightB, rightBs, aloneB, numB, one9_txt]
  kernel_rfl
theorem exS9_text : txS exS9 = [110, 111, 116, 32, 40, 97, 32, 38, 38, 32, 45, 40, 98, 32, 43, 32, 49, 41, 32, 60, 32, 99, 41] := by
  simp only [exS9, txS, txSs, nodeT, one9_txt]
  kernel_rfl
theorem lim0 : 0 < Zd.Lim := by unfold Zd.Lim; exact Nat.pow_pos (by unfold Zd.Bw; omega)
theorem lim1 : 1 < Zd.Lim := by have := Zd.parseV_lim [49]; rw [one9] at this; exact this
theorem exS9_ok : okS exS9 := by simp [exS9, okS, okSs, lim0, lim1]
theorem exS9_siz : sizS exS9 ≤ 1000000 := by simp [exS9, sizS, sizSs]
theorem exS9_wg : wgS exS9 ≤ 500000 := by simp [exS9, wgS, wgSs]

mutual
theorem SAt.bound {F : Nat → Prop} {w : World} : ∀ {x : Sx} {q : List Value}, SAt F w x q → SAt (fun k => F k ∧ k < w.heap.size) w x q
  | .mk op nm md nu ys ks ps, q, h => by
    simp only [SAt] at h ⊢
    obtain ⟨s, pw, nw, cw, pk, ck, rows, h1, h2, h6, h3, h4, h5⟩ := h
    refine ⟨s, pw, nw, cw, pk, ck, rows, h1, h2, fun h0 => ?_, h3, LsS.bound h4, fun h0 => ?_⟩
    · obtain ⟨a, ha, h7⟩ := h6 h0
      obtain ⟨a', ha', h8⟩ := Zd.int_some h2 h0
      rw [ha] at ha'; injection ha' with ha'; subst ha'
      exact ⟨a, ha, h7, h8⟩
    · obtain ⟨a, ha, h7, cs, T, h8⟩ := h5 h0
      exact ⟨a, ha, ⟨h7, hlt h8⟩, cs, T, h8⟩
theorem LsS.bound {F : Nat → Prop} {w : World} : ∀ {l : List Sx} {r : List (List Value)}, LsS F w l r → LsS (fun k => F k ∧ k < w.heap.size) w l r
  | [], r, h => by simp only [LsS] at h ⊢; exact h
  | x :: l, r, h => by
    simp only [LsS] at h ⊢
    obtain ⟨q, r', h1, h2, h3⟩ := h
    exact ⟨q, r', h1, SAt.bound h2, LsS.bound h3⟩
end
set_option maxRecDepth 100000 in
set_option maxHeartbeats 16000000 in
theorem read9_c (w : World) (hla : LaidE w) (hls : LaidS w) : Calls Tryz.prog 10 #[.string ⟨#[110, 111, 116, 40, 97, 38, 38, 45, 40, 98, 43, 49, 41, 60, 99, 41]⟩] w
    (fun e w' => w.grownBy w' none ∧ ∃ q, e = .returned (.tuple #[.agg q.toArray, .bool true]) ∧ SAt (fun k => k < w'.heap.size) w' exS9 q) := by
  have HP1 := Lib.hid (fun W (h : w.grownBy W none) => Formula_p ⟨#[110, 111, 116, 40, 97, 38, 38, 45, 40, 98, 43, 49, 41, 60, 99, 41]⟩ 200 W (by decide) (hla.kept h))
  have hok : (ansQ (⟨#[110, 111, 116, 40, 97, 38, 38, 45, 40, 98, 43, 49, 41, 60, 99, 41]⟩ : ByteArray).data.toList 200 true).2.1 = 0 := exF9_ok
  have HLA := Lib.hid hla; have HLS := Lib.hid hls
  clear hla hls
  have hbA := heap_alloc_new w (.cells #[.int .i64 0, .string ⟨#[]⟩, .string ⟨#[]⟩, .bool false, .slice none 0 0, .bool false, .slice none 0 0, .int .i64 0] 30)
  have hgA := World.grownBy_alloc w (.cells #[.int .i64 0, .string ⟨#[]⟩, .string ⟨#[]⟩, .bool false, .slice none 0 0, .bool false, .slice none 0 0, .int .i64 0] 30) none
  go_enter Tryz.func10, Tryz.ntmps10
  go_upto_region 1 with fail
  generalize (w.alloc (.cells #[.int .i64 0, .string ⟨#[]⟩, .string ⟨#[]⟩, .bool false, .slice none 0 0, .bool false, .slice none 0 0, .int .i64 0] 30)) = WA at *
  obtain ⟨b, hb⟩ : ∃ b, w.heap.size = b := ⟨_, rfl⟩
  rw [hb] at hbA ⊢
  have HB := Lib.hid hb; have HBA := Lib.hid hbA; have HGA := Lib.hid hgA
  clear hbA hgA hb
  go_wp2_with fail
  refine (HP1.out WA HGA.out).mono ?_
  rintro e w1 ⟨hg1, he⟩
  rw [if_neg (by rw [hok]; decide)] at he
  obtain ⟨pt, ct, pn, cn, K, rfl, hta, hct, hna, -, -, -, hN⟩ := he
  have HFO := Lib.hid (fun W h1 h2 h3 h4 => FormulaOf_c ⟨#[110, 111, 116, 40, 97, 38, 38, 45, 40, 98, 43, 49, 41, 60, 99, 41]⟩ 200 (by decide) hok pt pn ct cn K W h1 h2 h3 h4 hN)
  have hx9 : formE (⟨#[110, 111, 116, 40, 97, 38, 38, 45, 40, 98, 43, 49, 41, 60, 99, 41]⟩ : ByteArray).data.toList 200 = exX9 := exF9_form
  rw [hx9] at HFO
  have HTA := Lib.hid hta; have HNA := Lib.hid hna; have HG1 := Lib.hid (gb_trans HGA.out hg1)
  have HB1 := Lib.hid (bx hg1 HBA.out)
  obtain ⟨m, hm⟩ : ∃ m, (allE (⟨#[110, 111, 116, 40, 97, 38, 38, 45, 40, 98, 43, 49, 41, 60, 99, 41]⟩ : ByteArray).data.toList).1.length = m := ⟨_, rfl⟩
  obtain ⟨M, hM⟩ : ∃ M, (nodesQ (⟨#[110, 111, 116, 40, 97, 38, 38, 45, 40, 98, 43, 49, 41, 60, 99, 41]⟩ : ByteArray).data.toList 200 true).length = M := ⟨_, rfl⟩
  rw [hm, hM] at HFO ⊢
  obtain ⟨W, b0, b1, hW, e0, e1, hB0, hB1, hgW, h01⟩ := two w1 (.cells #[.slice pt m ct, .slice pn M cn] 42) (.cells #[.int .i64 0, .int .i64 0] 44)
  have hb1 : b1 = b0 + 1 := by omega
  subst hb1
  have HBW : Hid (b < W.heap.size) := Lib.hid (Nat.lt_of_lt_of_le (hlt HB1.out) hgW.size)
  have HT0 := Lib.hid hB0; have HT1 := Lib.hid hB1; have HGW := Lib.hid hgW
  clear hm hM hN hct hta hna hg1 hok hx9 HP1 hB0 hB1 hgW
  go_wp2_with fail
  try rw [← hW]
  try rw [e1]
  try rw [e0]
  clear e0 e1 hW
  refine (HFO.out _ (HLA.out.kept (gb_trans HG1.out HGW.out)) (HLS.out.kept (gb_trans HG1.out HGW.out)) (HTA.out.kept HGW.out) (HNA.out.kept HGW.out)).mono ?_
  rintro e w2 ⟨hg2, q, rfl, hq⟩
  have HG2 := Lib.hid (gb_trans (gb_trans HG1.out HGW.out) hg2)
  have hs := sat_of hq
  rw [exS9_is] at hs
  have HB2 := Lib.hid (bx (gb_trans HGW.out hg2) HB1.out)
  have HF2 := Lib.hid (bx hg2 HT1.out)
  have HX := Lib.hid hs
  have hs8 := hs
  unfold exS9 at hs8
  simp only [SAt] at hs8
  obtain ⟨s8, pw, nw, cw, pk, ck, rows, rfl, -⟩ := hs8
  clear hg2 hq hs HFO HLA HLS HTA HNA HGW HT0 HT1 HG1 HBA HGA HB1
  unfold strV at *
  simp only [List.length_cons, List.length_nil] at *
  have hg3 := World.grownBy_alloc w2 (.cells #[.int .i64 6, .string ⟨#[]⟩, .string ⟨#[]⟩, .bool s8, .slice pw nw cw, .bool false, .slice pk (0 + 1) ck, .int .i64 0] 30) none
  have hb3 := heap_alloc_new w2 (.cells #[.int .i64 6, .string ⟨#[]⟩, .string ⟨#[]⟩, .bool s8, .slice pw nw cw, .bool false, .slice pk (0 + 1) ck, .int .i64 0] 30)
  go_upto_region 3 with fail
  generalize (w2.alloc (.cells #[.int .i64 6, .string ⟨#[]⟩, .string ⟨#[]⟩, .bool s8, .slice pw nw cw, .bool false, .slice pk (0 + 1) ck, .int .i64 0] 30)) = W3 at *
  obtain ⟨b6, hb6⟩ : ∃ b6, w2.heap.size = b6 := ⟨_, rfl⟩
  rw [hb6] at hb3 ⊢
  have HB3 := Lib.hid hb3; have HBR := Lib.hid (bx hg3 HB2.out)
  have HG3 := Lib.hid (gb_trans HG2.out hg3)
  have HX3 := Lib.hid (HX.out.kept hg3)
  obtain ⟨f0, f1, f2⟩ := cells2 (bx hg3 HF2.out)
  obtain ⟨t0, t1, t2, t3, t4, t5, t6, t7⟩ := cells8u HB3.out
  obtain ⟨c0, c1, c2, c3, c4, c5, c6, c7⟩ := cells8u HBR.out
  have fz := frz HBR.out
  have hbw : b < W3.heap.size := hlt HBR.out
  clear hg3 hb3 HB2 HF2 HX HG2
  go_wp2_with fail
  obtain ⟨p1, f8⟩ := set8u HBR.out (.int .i64 6) (.string ⟨#[]⟩) (.string ⟨#[]⟩) (.bool s8) (.slice pw nw cw) (.bool false) (.slice pk 1 ck) (.int .i64 0)
  obtain ⟨r0, r1, r2, r3, r4, r5, r6, r7⟩ := cells8u p1
  have hf := fr_after HG3.out f8 (fun i hi => by have hi : i = b := hi; have := HB.out; omega)
  have hsx := (SAt.same f8 (fun k (hk : W.heap.size ≤ k) e => by have e : k = b := e; have := HBW.out; omega) HX3.out).bound
  refine bodyPost_ret (v := .tuple #[.agg #[.int .i64 6, .string ⟨#[]⟩, .string ⟨#[]⟩, .bool s8, .slice pw nw cw, .bool false, .slice pk 1 ck, .int .i64 0], .bool true]) (by simp [results, Tryz.results10, go_sem, r0, r1, r2, r3, r4, r5, r6, r7]) rfl ⟨hf, _, rfl, SAt.mono (fun k hk => hk.2) hsx⟩
end Go.Proofs.YtddccnpohpaofaaGreatDoor
