/- Lemmas. -/
import Derived.Test.YtijpelkjeejjfaaGreatDoorP41
import Derived.Test.YtijpelkjeejjfaaGreatDoorP49
import Derived.Test.YtijpelkjeejjfaaGreatDoorP50
set_option linter.unusedVariables false
set_option linter.unusedSimpArgs false
namespace Go.Proofs.YtijpelkjeejjfaaGreatDoor
open Go.RowKit

mutual
/-- What was read, as an expression of any Op. -/
def exS : Ex → Sx
  | .mk op nm md nu ys ks ps => .mk op nm md (if op = 1 then Zd.parseV nu else 0) ys (exSs ks) ps
def exSs : List Ex → List Sx
  | [] => []
  | x :: l => exS x :: exSs l
end
theorem exSs_len : ∀ l : List Ex, (exSs l).length = l.length
  | [] => rfl
  | x :: l => by simp only [exSs, List.length_cons, exSs_len l]
mutual
theorem sat_of {F : Nat → Prop} {w : World} : ∀ {x : Ex} {q : List Value}, EAt F w x q → SAt F w (exS x) q
  | .mk op nm md nu ys ks ps, q, h => by
    simp only [EAt] at h
    obtain ⟨s, pw, nw, cw, pk, ck, rows, rfl, hn, hg, hl, hf⟩ := h
    simp only [exS, SAt]
    have hi : Zd.IsInt w (.agg #[.bool s, .slice pw nw cw]) (if op = 1 then Zd.parseV nu else 0) ∧ (0 < nw → ∃ a, pw = some a ∧ F a.block) := by
      unfold NumAt at hn
      by_cases h1 : op = 1
      · rw [if_pos h1] at hn ⊢; exact ⟨hn.1, hn.2.2⟩
      · rw [if_neg h1] at hn ⊢
        obtain ⟨rfl, rfl, rfl, rfl⟩ := hn
        exact ⟨Zd.zero_int w, fun h => absurd h (by omega)⟩
    refine ⟨s, pw, nw, cw, pk, ck, rows, by rw [exSs_len], hi.1, hi.2, hg, ls_of hl, fun h0 => ?_⟩
    obtain ⟨a, ha, h1, h2⟩ := hf (fun e => h0 (by rw [e]; rfl))
    exact ⟨a, ha, h1, h2⟩
theorem ls_of {F : Nat → Prop} {w : World} : ∀ {l : List Ex} {r : List (List Value)}, LsE F w l r → LsS F w (exSs l) r
  | [], r, h => by simp only [LsE] at h; simp only [exSs, LsS]; exact h
  | x :: l, r, h => by
    simp only [LsE] at h
    obtain ⟨q, r', h1, h2, h3⟩ := h
    simp only [exSs, LsS]
    exact ⟨q, r', h1, sat_of h2, ls_of h3⟩
end
def exF9 : List UInt8 := [110, 111, 116, 40, 97, 38, 38, 45, 40, 98, 43, 49, 41, 60, 99, 41]
theorem exF9_ok : (ansQ exF9 200 true).2.1 = 0 := by kernel_rfl
def exX9 : Ex := .mk 6 [] [] [] false [.mk 18 [] [] [] false [.mk 3 [97] [] [] false [] 4, .mk 14 [] [] [] false [.mk 5 [] [] [] false [.mk 7 [] [] [] false [.mk 3 [98] [] [] false [] 9, .mk 1 [] [] [49] false [] 11] 10] 7, .mk 3 [99] [] [] false [] 14] 13] 5] 0
theorem exF9_form : formE exF9 200 = exX9 := by kernel_rfl
def exS9 : Sx := .mk 6 [] [] 0 false [.mk 18 [] [] 0 false [.mk 3 [97] [] 0 false [] 4, .mk 14 [] [] 0 false [.mk 5 [] [] 0 false [.mk 7 [] [] 0 false [.mk 3 [98] [] 0 false [] 9, .mk 1 [] [] 1 false [] 11] 10] 7, .mk 3 [99] [] 0 false [] 14] 13] 5] 0
theorem one9 : Zd.parseV [49] = 1 := by kernel_rfl
theorem exS9_is : exS exX9 = exS9 := by simp [exX9, exS, exSs, exS9, one9]
theorem one9_txt : Zd.txtL 1 = [49] := by rw [← one9, Zd.txtL_parse (by kernel_rfl)]
theorem exS9_right : rightB true exS9 = true := by
  simp only [exS9, rightB, rightBs, aloneB, numB, one9_txt]
  kernel_rfl
theorem exS9_text : txS exS9 = [110, 111, 116, 32, 40, 97, 32, 38, 38, 32, 45, 40, 98, 32, 43, 32, 49, 41, 32, 60, 32, 99, 41] := by
  simp only [exS9, txS, txSs, nodeT, one9_txt]
  kernel_rfl
theorem lim0 : 0 < Zd.Lim := by unfold Zd.Lim; exact Nat.pow_pos (by unfold Zd.Bw; omega)
theorem lim1 : 1 < Zd.Lim := by have := Zd.parseV_lim [49]; rw [one9] at this; exact this
theorem exS9_ok : okS exS9 := by simp [exS9, okS, okSs, lim0, lim1]
theorem exS9_siz : sizS exS9 ≤ 1000000 := by simp [exS9, sizS, sizSs]
theorem exS9_wg : wgS exS9 ≤ 500000 := by simp [exS9, wgS, wgSs]

mutual
theorem SAt.bound {F : Nat → Prop} {w : World} : ∀ {x : Sx} {q : List Value}, SAt F w x q → SAt (fun k => F k ∧ k < w.heap.size) w x q
  | .mk op nm md nu ys ks ps, q, h => by
    simp only [SAt] at h ⊢
    obtain ⟨s, pw, nw, cw, pk, ck, rows, h1, h2, h6, h3, h4, h5⟩ := h
    refine ⟨s, pw, nw, cw, pk, ck, rows, h1, h2, fun h0 => ?_, h3, LsS.bound h4, fun h0 => ?_⟩
    · obtain ⟨a, ha, h7⟩ := h6 h0
      obtain ⟨a', ha', h8⟩ := Zd.int_some h2 h0
      rw [ha] at ha'; injection ha' with ha'; subst ha'
      exact ⟨a, ha, h7, h8⟩
    · obtain ⟨a, ha, h7, cs, T, h8⟩ := h5 h0
      exact ⟨a, ha, ⟨h7, hlt h8⟩, cs, T, h8⟩
theorem LsS.bound {F : Nat → Prop} {w : World} : ∀ {l : List Sx} {r : List (List Value)}, LsS F w l r → LsS (fun k => F k ∧ k < w.heap.size) w l r
  | [], r, h => by simp only [LsS] at h ⊢; exact h
  | x :: l, r, h => by
    simp only [LsS] at h ⊢
    obtain ⟨q, r', h1, h2, h3⟩ := h
    exact ⟨q, r', h1, SAt.bound h2, LsS.bound h3⟩
end
set_option maxRecDepth 100000 in
set_option maxHeartbeats 16000000 in
theorem read9_c (w : World) (hla : LaidE w) (hls : LaidS w) : Calls Tryz.prog 9 #[.string ⟨#[110, 111, 116, 40, 97, 38, 38, 45, 40, 98, 43, 49, 41, 60, 99, 41]⟩] w
    (fun e w' => w.grownBy w' none ∧ ∃ q, e = .returned (.tuple #[.agg q.toArray, .bool true]) ∧ SAt (fun k => k < w'.heap.size) w' exS9 q) := by
  have HP1 := Lib.hid (fun W (h : w.grownBy W none) => Formula_p ⟨#[110, 111, 116, 40, 97, 38, 38, 45, 40, 98, 43, 49, 41, 60, 99, 41]⟩ 200 W (by decide) (hla.kept h))
  have hok : (ansQ (⟨#[110, 111, 116, 40, 97, 38, 38, 45, 40, 98, 43, 49, 41, 60, 99, 41]⟩ : ByteArray).data.toList 200 true).2.1 = 0 := exF9_ok
  have HLA := Lib.hid hla; have HLS := Lib.hid hls
  clear hla hls
  have hbA := heap_alloc_new w (.cells #[.int .i64 0, .string ⟨#[]⟩, .string ⟨#[]⟩, .bool false, .slice none 0 0, .bool false, .slice none 0 0, .int .i64 0] 31)
  have hgA := World.grownBy_alloc w (.cells #[.int .i64 0, .string ⟨#[]⟩, .string ⟨#[]⟩, .bool false, .slice none 0 0, .bool false, .slice none 0 0, .int .i64 0] 31) none
  go_enter Tryz.func9, Tryz.ntmps9
  go_upto_region 1 with fail
  generalize (w.alloc (.cells #[.int .i64 0, .string ⟨#[]⟩, .string ⟨#[]⟩, .bool false, .slice none 0 0, .bool false, .slice none 0 0, .int .i64 0] 31)) = WA at *
  obtain ⟨b, hb⟩ : ∃ b, w.heap.size = b := ⟨_, rfl⟩
  rw [hb] at hbA ⊢
  have HB := Lib.hid hb; have HBA := Lib.hid hbA; have HGA := Lib.hid hgA
  clear hbA hgA hb
  go_wp2_with fail
  refine (HP1.out WA HGA.out).mono ?_
  rintro e w1 ⟨hg1, he⟩
  rw [if_neg (by rw [hok]; decide)] at he
  obtain ⟨pt, ct, pn, cn, K, rfl, hta, hct, hna, -, -, -, hN⟩ := he
  have HFO := Lib.hid (fun W h1 h2 h3 h4 => FormulaOf_c ⟨#[110, 111, 116, 40, 97, 38, 38, 45, 40, 98, 43, 49, 41, 60, 99, 41]⟩ 200 (by decide) hok pt pn ct cn K W h1 h2 h3 h4 hN)
  have hx9 : formE (⟨#[110, 111, 116, 40, 97, 38, 38, 45, 40, 98, 43, 49, 41, 60, 99, 41]⟩ : ByteArray).data.toList 200 = exX9 := exF9_form
  rw [hx9] at HFO
  have HTA := Lib.hid hta; have HNA := Lib.hid hna; have HG1 := Lib.hid (gb_trans HGA.out hg1)
  have HB1 := Lib.hid (bx hg1 HBA.out)
  obtain ⟨m, hm⟩ : ∃ m, (allE (⟨#[110, 111, 116, 40, 97, 38, 38, 45, 40, 98, 43, 49, 41, 60, 99, 41]⟩ : ByteArray).data.toList).1.length = m := ⟨_, rfl⟩
  obtain ⟨M, hM⟩ : ∃ M, (nodesQ (⟨#[110, 111, 116, 40, 97, 38, 38, 45, 40, 98, 43, 49, 41, 60, 99, 41]⟩ : ByteArray).data.toList 200 true).length = M := ⟨_, rfl⟩
  rw [hm, hM] at HFO ⊢
  obtain ⟨W, b0, b1, hW, e0, e1, hB0, hB1, hgW, h01⟩ := two w1 (.cells #[.slice pt m ct, .slice pn M cn] 64) (.cells #[.int .i64 0, .int .i64 0] 66)
  have hb1 : b1 = b0 + 1 := by omega
  subst hb1
  have HBW : Hid (b < W.heap.size) := Lib.hid (Nat.lt_of_lt_of_le (hlt HB1.out) hgW.size)
  have HT0 := Lib.hid hB0; have HT1 := Lib.hid hB1; have HGW := Lib.hid hgW
  clear hm hM hN hct hta hna hg1 hok hx9 HP1 hB0 hB1 hgW
  go_wp2_with fail
  try rw [← hW]
  try rw [e1]
  try rw [e0]
  clear e0 e1 hW
  refine (HFO.out _ (HLA.out.kept (gb_trans HG1.out HGW.out)) (HLS.out.kept (gb_trans HG1.out HGW.out)) (HTA.out.kept HGW.out) (HNA.out.kept HGW.out)).mono ?_
  rintro e w2 ⟨hg2, q, rfl, hq⟩
  have HG2 := Lib.hid (gb_trans (gb_trans HG1.out HGW.out) hg2)
  have hs := sat_of hq
  rw [exS9_is] at hs
  have HB2 := Lib.hid (bx (gb_trans HGW.out hg2) HB1.out)
  have HF2 := Lib.hid (bx hg2 HT1.out)
  have HX := Lib.hid hs
  have hs8 := hs
  unfold exS9 at hs8
  simp only [SAt] at hs8
  obtain ⟨s8, pw, nw, cw, pk, ck, rows, rfl, -⟩ := hs8
  clear hg2 hq hs HFO HLA HLS HTA HNA HGW HT0 HT1 HG1 HBA HGA HB1
  unfold strV at *
  simp only [List.length_cons, List.length_nil] at *
  have hg3 := World.grownBy_alloc w2 (.cells #[.int .i64 6, .string ⟨#[]⟩, .string ⟨#[]⟩, .bool s8, .slice pw nw cw, .bool false, .slice pk (0 + 1) ck, .int .i64 0] 31) none
  have hb3 := heap_alloc_new w2 (.cells #[.int .i64 6, .string ⟨#[]⟩, .string ⟨#[]⟩, .bool s8, .slice pw nw cw, .bool false, .slice pk (0 + 1) ck, .int .i64 0] 31)
  go_upto_region 3 with fail
  generalize (w2.alloc (.cells #[.int .i64 6, .string ⟨#[]⟩, .string ⟨#[]⟩, .bool s8, .slice pw nw cw, .bool false, .slice pk (0 + 1) ck, .int .i64 0] 31)) = W3 at *
  obtain ⟨b6, hb6⟩ : ∃ b6, w2.heap.size = b6 := ⟨_, rfl⟩
  rw [hb6] at hb3 ⊢
  have HB3 := Lib.hid hb3; have HBR := Lib.hid (bx hg3 HB2.out)
  have HG3 := Lib.hid (gb_trans HG2.out hg3)
  have HX3 := Lib.hid (HX.out.kept hg3)
  obtain ⟨f0, f1, f2⟩ := cells2 (bx hg3 HF2.out)
  obtain ⟨t0, t1, t2, t3, t4, t5, t6, t7⟩ := cells8u HB3.out
  obtain ⟨c0, c1, c2, c3, c4, c5, c6, c7⟩ := cells8u HBR.out
  have fz := frz HBR.out
  have hbw : b < W3.heap.size := hlt HBR.out
  clear hg3 hb3 HB2 HF2 HX HG2
  go_wp2_with fail
  obtain ⟨p1, f8⟩ := set8u HBR.out (.int .i64 6) (.string ⟨#[]⟩) (.string ⟨#[]⟩) (.bool s8) (.slice pw nw cw) (.bool false) (.slice pk 1 ck) (.int .i64 0)
  obtain ⟨r0, r1, r2, r3, r4, r5, r6, r7⟩ := cells8u p1
  have hf := fr_after HG3.out f8 (fun i hi => by have hi : i = b := hi; have := HB.out; omega)
  have hsx := (SAt.same f8 (fun k (hk : W.heap.size ≤ k) e => by have e : k = b := e; have := HBW.out; omega) HX3.out).bound
  refine bodyPost_ret (v := .tuple #[.agg #[.int .i64 6, .string ⟨#[]⟩, .string ⟨#[]⟩, .bool s8, .slice pw nw cw, .bool false, .slice pk 1 ck, .int .i64 0], .bool true]) (by simp [results, Tryz.results9, go_sem, r0, r1, r2, r3, r4, r5, r6, r7]) rfl ⟨hf, _, rfl, SAt.mono (fun k hk => hk.2) hsx⟩

theorem res_at (w : World) : SAt (fun _ => False) w (.mk 4 [] [] 0 false [] 0) [.int .i64 4, .string ⟨#[]⟩, .string ⟨#[]⟩, .bool false, .slice none 0 0, .bool false, .slice none 0 0, .int .i64 0] := by
  simp only [SAt]
  exact ⟨false, none, 0, 0, none, 0, [], rfl, Zd.zero_int w, fun h => absurd h (by omega), GAt.nil, LsS.nil, fun h => absurd rfl h⟩
theorem res_right : rightB false (.mk 4 [] [] 0 false [] 0) = false := by simp [rightB, mayB]
set_option maxRecDepth 100000 in
set_option maxHeartbeats 16000000 in
theorem anchor9_c (w : World) (hla : LaidE w) (hls : LaidS w) (hlw : LaidW w) : Calls Tryz.prog 4 #[] w (ValPost (.bool true) w) := by
  have HRD := Lib.hid (read9_c w hla hls)
  have HLE := Lib.hid (fun W (h : w.grownBy W none) => hla.kept h)
  have HLW : Hid (∀ W, w.grownBy W none → LaidW W) := Lib.hid (fun W h j t hj => h.cell (hlw j t hj) (by simp))
  have HBD := Lib.hid (fun W (h : w.grownBy W none) => Body_c (fun _ => False) (.mk 4 [] [] 0 false [] 0) _ W (HLE.out W h) (HLW.out W h) (res_at W) (fun _ h => h.elim) (by simp [sizS, sizSs]) (by simp [okS, okSs, lim0]) (by simp [wgS, wgSs]) (by simp [txS, txSs, nodeT]))
  clear hla hls hlw
  go_enter Tryz.func4, Tryz.ntmps4
  go_wp2_with fail
  refine HRD.out.mono ?_
  rintro e w1 ⟨hg1, q, rfl, hx⟩
  have HFO := Lib.hid (fun W (h : w1.grownBy W none) => Formula_c _ exS9 q W (HLE.out W (gb_trans hg1 h)) (HLW.out W (gb_trans hg1 h)) (hx.kept h) (fun k hk => Nat.lt_of_lt_of_le hk h.size) exS9_siz exS9_ok exS9_wg (by rw [exS9_text]; decide))
  have HG1 := Lib.hid hg1
  have hs8 := hx
  unfold exS9 at hs8
  simp only [SAt] at hs8
  obtain ⟨s8, pw, nw, cw, pk, ck, rows, rfl, -⟩ := hs8
  clear hg1 hx HRD
  unfold strV at *
  simp only [List.length_cons, List.length_nil, Nat.zero_add] at *
  have hg2 := World.grownBy_alloc w1 (.cells #[.int .i64 6, .string ⟨#[]⟩, .string ⟨#[]⟩, .bool s8, .slice pw nw cw, .bool false, .slice pk 1 ck, .int .i64 0] 31) none
  have hb2 := heap_alloc_new w1 (.cells #[.int .i64 6, .string ⟨#[]⟩, .string ⟨#[]⟩, .bool s8, .slice pw nw cw, .bool false, .slice pk 1 ck, .int .i64 0] 31)
  go_upto_region 2 with fail
  generalize (w1.alloc (.cells #[.int .i64 6, .string ⟨#[]⟩, .string ⟨#[]⟩, .bool s8, .slice pw nw cw, .bool false, .slice pk 1 ck, .int .i64 0] 31)) = W2 at *
  obtain ⟨b, hb⟩ : ∃ b, w1.heap.size = b := ⟨_, rfl⟩
  rw [hb] at hb2 ⊢
  have HFO2 := Lib.hid (HFO.out W2 hg2)
  have HG2 := Lib.hid (gb_trans HG1.out hg2)
  obtain ⟨c0, c1, c2, c3, c4, c5, c6, c7⟩ := cells8u hb2
  have hbw : b < W2.heap.size := hlt hb2
  clear hb hb2 hg2 HFO
  have hr9 := exS9_right
  have ht9 := exS9_text
  go_wp2_with fail
  refine HFO2.out.mono ?_
  rintro e w3 ⟨rfl, hg3⟩
  rw [hr9, ht9]
  have HG3 := Lib.hid (gb_trans HG2.out hg3)
  clear hg3 c0 c1 c2 c3 c4 c5 c6 c7 hbw hr9 ht9
  go_wp2_with fail
  refine (HBD.out w3 HG3.out).mono ?_
  rintro e w4 ⟨rfl, hg4⟩
  rw [res_right]
  have HG4 := Lib.hid (gb_trans HG3.out hg4)
  clear hg4
  go_wp2_with fail
  go_ret
  exact ⟨rfl, HG4.out⟩

theorem okI_snoc (base : Int) (n : Nat) (xs : List Sx) (x : Sx) : okI base n (xs ++ [x]) = (okI base n xs && rightB true x) := by
  simp [okI, List.all_append, Bool.and_assoc]
theorem tydT_snoc (base : Int) (xs : List Sx) (x : Sx) : tydT base (xs ++ [x]) = tydT base xs ++ ([32, 123] ++ txS x ++ [125]) := by
  simp [tydT, clsT]
theorem ty_join (base : Int) (xs : List Sx) (x : Sx) : (⟨(tydT base (xs ++ [x])).toArray⟩ : ByteArray) = (⟨(tydT base xs).toArray⟩ : ByteArray) ++ (((⟨#[32, 123]⟩ : ByteArray) ++ (⟨(txS x).toArray⟩ : ByteArray)) ++ (⟨#[125]⟩ : ByteArray)) := by
  rw [tydT_snoc, ba_cat, ba_cat, ba_cat]
theorem tydT_len {base : Int} {xs : List Sx} (h : ∀ x ∈ xs, (txS x).length ≤ 10000) : (tydT base xs).length ≤ 4 + 10003 * xs.length := by
  have hb : (baseT base).length ≤ 4 := by unfold baseT; split <;> simp
  have : ∀ l : List Sx, (∀ x ∈ l, (txS x).length ≤ 10000) → (l.flatMap clsT).length ≤ 10003 * l.length := by
    intro l
    induction l with
    | nil => intro _; simp
    | cons x l ih =>
      intro hl
      have h1 := hl x (by simp)
      have h2 := ih (fun z hz => hl z (by simp [hz]))
      simp only [List.flatMap_cons, List.length_append, List.length_cons, clsT, List.length_nil]
      omega
  have := this xs h
  simp only [tydT, List.length_append]; omega

set_option maxRecDepth 100000 in
set_option maxHeartbeats 16000000 in
theorem typed9_c (base : Int) (L : List Cr) (pt : Option Addr) (ct : Nat) (w : World) (hT : GAt 1 w pt (L.map fun y => [crV y])) (hC : ∀ y ∈ L, CrAt w y) (hla : LaidE w) (hls : LaidS w) (hlw : LaidW w) :
    Calls Tryz.prog 3 #[.int .i64 base, .slice pt L.length ct] w (ValPost (.bool true) w) := by
  have hV : VAt w pt (L.map crV) := v_of_g (by rw [show one (L.map crV) = L.map fun y => [crV y] from by unfold one; rw [List.map_map]; rfl]; exact hT)
  have HAN := Lib.hid (anchor9_c w hla hls hlw)
  have HBO := Lib.hid (fun (y : Cr) (hy : y ∈ L) W (h : w.grownBy W none) => both_c y.l y.p y.c W ((hC y hy).1.kept h) (hC y hy).2)
  have HLE := Lib.hid hla
  have HLW : Hid (∀ W, w.grownBy W none → LaidW W) := Lib.hid (fun W h j t hj => h.cell (hlw j t hj) (by simp))
  have HV : Hid (∀ W, w.grownBy W none → VAt W pt (L.map crV)) := Lib.hid (fun W h => hV.kept h)
  obtain ⟨n, hn⟩ : ∃ n, L.length = n := ⟨_, rfl⟩
  have HN := Lib.hid hn
  rw [hn]
  clear hT hC hla hls hlw hV hn
  go_enter Tryz.func3, Tryz.ntmps3
  go_wp2_with fail
  refine HAN.out.mono ?_
  rintro e w1 ⟨rfl, hg1⟩
  have HG1 := Lib.hid hg1
  clear hg1 HAN
  by_cases hn3 : 3 < n
  focus
    have y1 : decide ((3 : Int) < (n : Int)) = true := decide_eq_true (by omega)
    have y2 : decide (3 < n) = true := decide_eq_true hn3
    go_wp2_with fail
    go_ret
    exact ⟨rfl, gb_trans HG1.out (by repeat (first | with_reducible exact gb_refl _ _ | with_reducible refine gb_drew ?_ | with_reducible refine gb_drewN ?_ _ | with_reducible refine gb_alloc ?_ _))⟩
  have y1 : decide ((3 : Int) < (n : Int)) = false := decide_eq_false (by omega)
  have y2 : decide (3 < n) = false := decide_eq_false hn3
  obtain ⟨ok0, hok0⟩ : ∃ v, okI base n [] = v := ⟨_, rfl⟩
  go_upto_region 6 with fail
  go_cut [6] (fun t6 wx => t6 = .bool ok0 ∧ wx = w1)
  case first =>
    by_cases hb1 : base = 1
    focus
      subst hb1
      by_cases hn1 : n ≤ 1
      focus
        have x1 : decide ((n : Int) ≤ 1) = true := decide_eq_true (by omega)
        have x2 : decide (n ≤ 1) = true := decide_eq_true hn1
        have ho : ok0 = true := by rw [← hok0]; simp [okI, hn1]
        subst ho
        clear hok0
        go_wp2_with fail
        go_meet
        exact ⟨rfl, rfl⟩
      focus
        have x1 : decide ((n : Int) ≤ 1) = false := decide_eq_false (by omega)
        have x2 : decide (n ≤ 1) = false := decide_eq_false hn1
        have ho : ok0 = false := by rw [← hok0]; simp [okI, hn1]
        subst ho
        clear hok0
        go_wp2_with fail
        go_meet
        exact ⟨rfl, rfl⟩
    focus
      have h1 : (base == 1) = false := by simpa using hb1
      by_cases hb2 : base = 2
      focus
        subst hb2
        by_cases hn1 : n ≤ 1
        focus
          have x1 : decide ((n : Int) ≤ 1) = true := decide_eq_true (by omega)
          have x2 : decide (n ≤ 1) = true := decide_eq_true hn1
          have ho : ok0 = true := by rw [← hok0]; simp [okI, hn1]
          subst ho
          clear hok0
          go_wp2_with fail
          go_meet
          exact ⟨rfl, rfl⟩
        focus
          have x1 : decide ((n : Int) ≤ 1) = false := decide_eq_false (by omega)
          have x2 : decide (n ≤ 1) = false := decide_eq_false hn1
          have ho : ok0 = false := by rw [← hok0]; simp [okI, hn1]
          subst ho
          clear hok0
          go_wp2_with fail
          go_meet
          exact ⟨rfl, rfl⟩
      focus
        have h2 : (base == 2) = false := by simpa using hb2
        have ho : ok0 = false := by rw [← hok0]; simp [okI, hb1, hb2]
        subst ho
        clear hok0
        go_wp2_with fail
        go_meet
        exact ⟨rfl, rfl⟩
  case rest =>
  obtain ⟨rfl, rfl⟩ := hcut
  go_upto_if 32 with fail
  go_cut [7] (fun t7 wx => wx = wc ∧ ∃ s : ByteArray, t7 = .string s ∧ Hid (ok0 = true → s = ⟨(tydT base []).toArray⟩))
  case first =>
    by_cases hb2 : base = 2
    focus
      subst hb2
      go_wp2_with fail
      go_meet
      exact ⟨rfl, _, rfl, Lib.hid (fun _ => rfl)⟩
    focus
      have h2 : (base == 2) = false := by simpa using hb2
      have hs : ok0 = true → base = 1 := fun h => by
        rw [← hok0] at h
        simp [okI, hb2] at h
        exact h.1
      have HS := Lib.hid hs
      clear hok0 hs
      go_wp2_with fail
      go_meet
      exact ⟨rfl, _, rfl, Lib.hid (fun h => by rw [HS.out h]; rfl)⟩
  case rest =>
  obtain ⟨rfl, s0, rfl, HS0⟩ := hcut
  have HOK0 := Lib.hid hok0
  clear hok0 y1 y2
  have hn4 : n ≤ 3 := by omega
  clear hn3
  have HSZ1 : Hid (w.heap.size ≤ wc.heap.size) := Lib.hid HG1.out.size
  go_wp2_with fail
  go_loopw [5, 6, 7, 35] (fun lv ov sv iv wr => ∃ (k : Nat) (xs : List Sx) (rows : List (List Value)) (p : Option Addr) (m c : Nat) (okv : Bool) (s : ByteArray), k ≤ n ∧ lv = .slice p m c ∧ ov = .bool okv ∧ sv = .string s ∧ iv = .int .i64 k ∧ Hid (StkAt w.heap.size wr (.slice p m c) xs rows) ∧ Hid (xs.length = k) ∧ Hid (okI base n xs = okv) ∧ Hid (okv = true → s = ⟨(tydT base xs).toArray⟩) ∧ Hid (∀ x ∈ xs, ∃ l, bothC l = some x) ∧ Hid (w.grownBy wr none)) (fun _ _ _ iv _ => n - (intOf iv).toNat)
  case atStart => exact ⟨0, [], [], none, 0, 0, ok0, s0, Nat.zero_le _, rfl, rfl, rfl, rfl, Lib.hid ⟨OwnG.nil _ _ _ _, LsS.nil, HSZ1.out⟩, Lib.hid rfl, HOK0, HS0, Lib.hid (fun x hx => by cases hx), HG1⟩
  case round =>
    obtain ⟨k, xs, rows, p, m, c, okv, s, hkn, rfl, rfl, rfl, rfl, HST, HXL, HOK, HS, HXB, HGR⟩ := hrel
    by_cases hkn2 : k < n
    focus
      have y3 : decide ((k : Int) < (n : Int)) = true := decide_eq_true (by omega)
      have y4 : decide (k < n) = true := decide_eq_true hkn2
      have z1 : (0 : Int) ≤ (k : Int) := by omega
      have z2 : (k : Int) < (n : Int) := by omega
      have hkL : k < L.length := by rw [HN.out]; exact hkn2
      obtain ⟨y, hy⟩ : ∃ y, L[k]? = some y := ⟨L[k], List.getElem?_eq_getElem hkL⟩
      have hyL := List.mem_of_getElem? hy
      obtain ⟨pg, po, hpt, hpw, ck⟩ : ∃ pg po, pt = some ⟨pg, po, none⟩ ∧ pg < wr.heap.size ∧ wr.cell? ⟨pg, po + k, none⟩ = some (crV y) := by
        rcases HV.out wr HGR.out with h | ⟨g, off, h1, h2, h3⟩
        · have : L.length = 0 := by have := congrArg List.length h; simpa using this
          omega
        · exact ⟨g, off, h1, h2, h3 k _ (by rw [List.getElem?_map, hy]; rfl)⟩
      have HB := Lib.hid (HBO.out y hyL wr HGR.out)
      subst hpt
      unfold crV at ck HB
      obtain ⟨yp, hyp⟩ : ∃ z, y.p = z := ⟨_, rfl⟩
      obtain ⟨ym, hym⟩ : ∃ z, y.l.length = z := ⟨_, rfl⟩
      obtain ⟨yc, hyc⟩ : ∃ z, y.c = z := ⟨_, rfl⟩
      rw [hyp, hym, hyc] at ck HB
      clear hyp hym hyc hkL hy hyL
      go_wp2_with fail
      refine HB.out.mono ?_
      rintro e w2 ⟨hg2, hbo⟩
      have HG2 := Lib.hid (gb_trans HGR.out hg2)
      have HGr2 := Lib.hid hg2
      clear hg2 HB ck hpw
      cases hb : bothC y.l with
      | none =>
        rw [hb] at hbo
        subst hbo
        clear hb
        unfold z8 z7
        go_wp2_with fail
        go_ret
        exact ⟨rfl, gb_trans HG2.out (by repeat (first | with_reducible exact gb_refl _ _ | with_reducible refine gb_drew ?_ | with_reducible refine gb_drewN ?_ _ | with_reducible refine gb_alloc ?_ _))⟩
      | some x =>
        rw [hb] at hbo
        obtain ⟨q, r, rfl, hx, hr⟩ := hbo
        have hsz := bothC_siz hb
        have hokx := bothC_ok hb
        have hbd := bothC_bnd hb
        have htx : (txS x).length ≤ 10000 := Nat.le_trans (tb_len x) hbd.1
        have HBX := Lib.hid hb
        have HTL := Lib.hid htx
        have HSZr : Hid (wr.heap.size ≤ w2.heap.size) := Lib.hid HGr2.out.size
        have HOWN : Hid (∀ g, (Value.slice p m c).ownBlock = some g → w.heap.size ≤ g ∧ g < wr.heap.size) := Lib.hid (fun g hg => HST.out.1.at g hg)
        have HRS : Hid (∀ W, Fr2 (fun k => (Value.slice p m c).ownBlock = some k) w2 W → RSt (fun k => wr.heap.size ≤ k ∧ k < w2.heap.size) W x r) := Lib.hid (fun W hf => hr.same hf (fun k hk e => by have := (HOWN.out k e).2; omega))
        obtain ⟨rr, hrr⟩ : ∃ rr, rightB true x = rr := ⟨_, rfl⟩
        have HRR : Hid (∀ W, Fr2 (fun k => (Value.slice p m c).ownBlock = some k) w2 W → Calls Tryz.prog 6 #[.agg r.toArray, .bool true] W (TruePost rr W)) := Lib.hid (fun W hf => by rw [← hrr]; exact rright_c true 30 x hsz _ r W (HRS.out W hf) hokx (by omega))
        obtain ⟨T, hT⟩ : ∃ T, txS x = T := ⟨_, rfl⟩
        have HTX : Hid (rr = true → ∀ W, Fr2 (fun k => (Value.slice p m c).ownBlock = some k) w2 W → Calls Tryz.prog 7 #[.agg r.toArray] W (StrX T W)) := Lib.hid (fun h W hf => by rw [← hT]; exact rtext_c 30 x hsz _ r W (HRS.out W hf) (right_fit (by rw [hrr]; exact h) hokx) (by omega) (by omega))
        have HRB := Lib.hid hrr; have HTT := Lib.hid hT
        have HX := Lib.hid (SAt.mono (F' := fun k => w.heap.size ≤ k ∧ k < w2.heap.size ∧ (Value.slice p m c).ownBlock ≠ some k) (fun k hk => ⟨Nat.le_trans HGR.out.size hk.1, hk.2, fun e => by have := (HOWN.out k e).2; omega⟩) hx)
        have HON := Lib.hid hx.eight.2
        clear hb hsz hokx hbd htx hrr hT HBO HRS
        cases x with
        | mk op nm md nu ys ks ps =>
          simp only [SAt] at hx
          simp only [RSt] at hr
          obtain ⟨s1, pw1, nw1, cw1, pk1, ck1, rows1, rfl, -⟩ := hx
          obtain ⟨pk2, ck2, rows2, rfl, -⟩ := hr
          unfold strV at *
          generalize (⟨nm.toArray⟩ : ByteArray) = y1 at *
          generalize (⟨md.toArray⟩ : ByteArray) = z1 at *
          generalize (⟨(Zd.txtL nu).toArray⟩ : ByteArray) = u1 at *
          generalize ks.length = kl1 at *
          have hgA := World.grownBy_alloc w2 (.cells #[.int .i64 op, .string y1, .string z1, .bool s1, .slice pw1 nw1 cw1, .bool ys, .slice pk1 kl1 ck1, .int .i64 ps] 31) none
          have hbA := heap_alloc_new w2 (.cells #[.int .i64 op, .string y1, .string z1, .bool s1, .slice pw1 nw1 cw1, .bool ys, .slice pk1 kl1 ck1, .int .i64 ps] 31)
          have hgB := World.grownBy_alloc (w2.alloc (.cells #[.int .i64 op, .string y1, .string z1, .bool s1, .slice pw1 nw1 cw1, .bool ys, .slice pk1 kl1 ck1, .int .i64 ps] 31)) (.cells #[.int .i64 op, .string y1, .string z1, .string u1, .bool ys, .slice pk2 kl1 ck2, .int .i64 ps] 34) none
          have hbB := heap_alloc_new (w2.alloc (.cells #[.int .i64 op, .string y1, .string z1, .bool s1, .slice pw1 nw1 cw1, .bool ys, .slice pk1 kl1 ck1, .int .i64 ps] 31)) (.cells #[.int .i64 op, .string y1, .string z1, .string u1, .bool ys, .slice pk2 kl1 ck2, .int .i64 ps] 34)
          have hsA : (w2.alloc (.cells #[.int .i64 op, .string y1, .string z1, .bool s1, .slice pw1 nw1 cw1, .bool ys, .slice pk1 kl1 ck1, .int .i64 ps] 31)).heap.size = w2.heap.size + 1 := by simp
          rw [hsA] at hbB
          have hbA := bx hgB hbA
          have hg := gb_trans hgA hgB
          go_upto_region 14 with fail
          generalize ((w2.alloc (.cells #[.int .i64 op, .string y1, .string z1, .bool s1, .slice pw1 nw1 cw1, .bool ys, .slice pk1 kl1 ck1, .int .i64 ps] 31)).alloc (.cells #[.int .i64 op, .string y1, .string z1, .string u1, .bool ys, .slice pk2 kl1 ck2, .int .i64 ps] 34)) = W3 at *
          obtain ⟨b, hb⟩ : ∃ b, w2.heap.size = b := ⟨_, rfl⟩
          have HBS := Lib.hid hb
          rw [hb] at hbA hbB ⊢
          have HBA := Lib.hid hbA; have HBB := Lib.hid hbB; have HG3 := Lib.hid hg
          clear hgA hgB hsA hbA hbB hg hb
          obtain ⟨c0, c1, c2, c3, c4, c5, c6, c7⟩ := cells8u HBA.out
          have hbw : b < W3.heap.size := hlt HBA.out
          have HNEW := Lib.hid (heap_alloc_new W3 (.cells #[.int .i64 op, .string y1, .string z1, .bool s1, .slice pw1 nw1 cw1, .bool ys, .slice pk1 kl1 ck1, .int .i64 ps] 31))
          have HG4 := Lib.hid (World.grownBy_alloc W3 (.cells #[.int .i64 op, .string y1, .string z1, .bool s1, .slice pw1 nw1 cw1, .bool ys, .slice pk1 kl1 ck1, .int .i64 ps] 31) none)
          have HST2 := Lib.hid (HST.out.kept HGr2.out)
          have HRL : Hid (rows.length ≤ 10) := Lib.hid (by rw [HST.out.2.1.len, HXL.out]; omega)
          have HRM : Hid (rows.length = m) := Lib.hid (by obtain ⟨p', c', e, -⟩ := HST2.out.1.is; injection e with e1 e2 e3; exact e2.symm)
          have HBASE : Hid (w.heap.size ≤ W3.heap.size) := Lib.hid (Nat.le_trans HG2.out.size HG3.out.size)
          go_wp2_with (at_builtin; go_loud (refine wpList_appGl (s := 8) (t := 24) (T := 31) (by decide) Tryz.underlying24 infoExS rfl (by omega) rfl _ _ rfl w.heap.size rows [.int .i64 op, .string y1, .string z1, .bool s1, .slice pw1 nw1 cw1, .bool ys, .slice pk1 kl1 ck1, .int .i64 ps] rfl HON.out (.slice p m c) rfl (HST2.out.1.kept (gb_trans HG3.out HG4.out)) W3.heap.size _ rfl HNEW.out rfl (by have := HRL.out; omega) (by have := HBASE.out; simp; omega) (W3.heap.size + 1) (by simp) ?_))
          intro g9 cap9 w9 hO9 hg9 hl9
          have hpf := push_fin (W := w) (H := W3.heap.size + 1) (o1 := xs) (o2 := []) (r1 := rows) (r2 := []) (by simpa using HST2.out) HRM.out (by rw [← HRM.out]; exact HST2.out.2.1.len.symm) HX.out (gb_trans HG3.out HG4.out) hO9 hg9 hl9 (by simp) HG2.out (Nat.le_refl _)
          have HST9 := Lib.hid hpf.1; have HG9 := Lib.hid hpf.2
          have hf9 := Fr2.of (S := fun k => (Value.slice p m c).ownBlock = some k) hg9 (fun k e => e)
          have HF9 := Lib.hid ((Fr2.none (gb_trans HG3.out HG4.out)).trans hf9)
          have HBB9 := Lib.hid (hf9.keep (bx HG4.out HBB.out) (fun e => by have h1 := (HOWN.out _ e).2; have h2 := HSZr.out; have h3 := HBS.out; omega))
          have HOK9 : Hid (okI base n (xs ++ [Sx.mk op nm md nu ys ks ps]) = (okv && rr)) := Lib.hid (by rw [okI_snoc, HOK.out, HRB.out])
          have HXL9 : Hid ((xs ++ [Sx.mk op nm md nu ys ks ps]).length = k + 1) := Lib.hid (by rw [List.length_append, HXL.out]; rfl)
          have HXB9 : Hid (∀ x ∈ xs ++ [Sx.mk op nm md nu ys ks ps], ∃ l, bothC l = some x) := Lib.hid (fun x hx => by
            rcases List.mem_append.1 hx with h | h
            · exact HXB.out x h
            · simp at h; subst h; exact ⟨_, HBX.out⟩)
          clear hpf hO9 hg9 hl9 hf9 c0 c1 c2 c3 c4 c5 c6 c7 hbw HNEW HG4 HST HST2 HX HON HBA
          obtain ⟨d0, d1, d2, d3, d4, d5, d6, d7⟩ := cells7u HBB9.out
          have hbw1 : b + 1 < w9.heap.size := hlt HBB9.out
          cases okv
          focus
            go_wp2_with fail
            go_roundw
            case rel => exact ⟨k + 1, _, _, _, _, _, false, s, by omega, rfl, rfl, rfl, by go_num, HST9, HXL9, Lib.hid (by rw [HOK9.out]; rfl), Lib.hid (fun h => by cases h), HXB9, HG9⟩
            case measure => (simp [intOf] <;> omega)
          go_wp2_with fail
          refine (HRR.out w9 HF9.out).mono ?_
          rintro e w10 ⟨rfl, hg10⟩
          have HF10 := Lib.hid (HF9.out.trans (Fr2.none hg10))
          have HG10 := Lib.hid (gb_trans HG9.out hg10)
          have HST10 := Lib.hid (HST9.out.kept hg10)
          have HBB10 := Lib.hid (bx hg10 HBB9.out)
          clear d0 d1 d2 d3 d4 d5 d6 d7 hbw1 hg10 HST9 HG9 HBB9 HF9 HRR
          cases rr
          focus
            go_wp2_with fail
            go_roundw
            case rel => exact ⟨k + 1, _, _, _, _, _, false, s, by omega, rfl, rfl, rfl, by go_num, HST10, HXL9, Lib.hid (by rw [HOK9.out]; rfl), Lib.hid (fun h => by cases h), HXB9, HG10⟩
            case measure => (simp [intOf] <;> omega)
          obtain ⟨d0, d1, d2, d3, d4, d5, d6, d7⟩ := cells7u HBB10.out
          have hbw1 : b + 1 < w10.heap.size := hlt HBB10.out
          go_wp2_with fail
          refine (HTX.out (by simp) w10 HF10.out).mono ?_
          rintro e w11 ⟨rfl, hg11⟩
          have HG11 := Lib.hid (gb_trans HG10.out hg11)
          have HST11 := Lib.hid (HST10.out.kept hg11)
          have hs := HS.out (by simp)
          have htl : T.length ≤ 10000 := by rw [← HTT.out]; exact HTL.out
          have hss : s.size ≤ 60000 := by
            have h2 := tydT_len (base := base) (xs := xs) (fun x hx => by obtain ⟨l, hl⟩ := HXB.out x hx; exact Nat.le_trans (tb_len x) (bothC_bnd hl).1)
            have h3 := HXL.out
            rw [hs]; show (tydT base xs).toArray.size ≤ 60000
            rw [List.size_toArray]; omega
          have HSS := Lib.hid hs
          clear d0 d1 d2 d3 d4 d5 d6 d7 hbw1 hg11 HST10 HBB10 HF10 hs
          go_wp2_with fail
          go_roundw
          case rel => exact ⟨k + 1, _, _, _, _, _, true, _, by omega, rfl, rfl, rfl, by go_num, HST11, HXL9, Lib.hid (by rw [HOK9.out]; rfl), Lib.hid (fun _ => by rw [ty_join, ← HSS.out, HTT.out]; try rfl), HXB9, HG11⟩
          case measure => (simp [intOf] <;> omega)
    focus
      obtain rfl : k = n := by omega
      have y3 : decide ((k : Int) < (k : Int)) = false := decide_eq_false (by omega)
      have hst := HST.out
      obtain ⟨p', c', e1, hG, -⟩ := hst.1.is
      injection e1 with e1 e2 e3
      subst e1; subst e3
      have hm : m = xs.length := by rw [e2]; exact hst.2.1.len
      have hsx : ∀ x ∈ xs, sizS x ≤ 30 ∧ okS x ∧ tbS x ≤ 10000 ∧ wgS x ≤ 500 := fun x hx => by
        obtain ⟨l, hl⟩ := HXB.out x hx
        exact ⟨bothC_siz hl, bothC_ok hl, bothC_bnd hl⟩
      have hty := Typed_c _ base xs p c rows wr (HLE.out.kept HGR.out) (HLW.out wr HGR.out) hG hst.2.1 (fun _ a ha => by
          rcases hst.1.1.2 with ⟨e, -⟩ | ⟨g, cap, cur, e, hb, hg, -⟩
          · injection e with e4; rw [ha] at e4; cases e4
          · injection e with e4
            rw [ha] at e4
            injection e4 with e4
            subst e4
            exact ⟨_, _, hg⟩) (fun x hx => (hsx x hx).2.1) (fun x hx => by have := (hsx x hx).1; omega) (fun k hk => hk.2.1) (fun x hx => by have := (hsx x hx).2.2.2; omega) (fun x hx => by have := tb_len x; have := (hsx x hx).2.2.1; omega)
      have hrt : rT base xs = okv := by unfold rT; rw [HXL.out]; exact HOK.out
      unfold TyPost at hty
      rw [hrt, ← hm] at hty
      have HSX := HS
      cases okv
      focus
        simp only [Bool.false_eq_true, if_false] at hty
        have HTY := Lib.hid hty
        clear hty hrt hsx hst hG e2 hm
        go_wp2_with fail
        refine HTY.out.mono ?_
        rintro e w5 ⟨rfl, hg5⟩
        have HG5 := Lib.hid (gb_trans HGR.out hg5)
        clear hg5
        go_wp2_with fail
        go_ret
        exact ⟨rfl, HG5.out⟩
      focus
        simp only [if_true] at hty
        rw [← HS.out (by simp)] at hty
        have HTY := Lib.hid hty
        clear hty hrt hsx hst hG e2 hm
        go_wp2_with fail
        refine HTY.out.mono ?_
        rintro e w5 ⟨rfl, hg5⟩
        have HG5 := Lib.hid (gb_trans HGR.out hg5)
        clear hg5
        go_wp2_with fail
        go_ret
        exact ⟨rfl, HG5.out⟩
end Go.Proofs.YtijpelkjeejjfaaGreatDoor
