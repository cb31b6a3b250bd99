/- A definition without its clauses. -/
import Derived.Test.YtoahgeleenpnjaaGreatDoorE17
import Derived.Test.YtoahgeleenpnjaaGreatDoorE24
import Derived.Test.YtoahgeleenpnjaaGreatDoorE39
set_option linter.unusedVariables false
set_option linter.unusedSimpArgs false
namespace Go.Proofs.YtoahgeleenpnjaaGreatDoor
open Go.RowKit

def eraF (f : Fx) : Fx := { f with cl := [], bare := f.bare }
def eraD (d : Dx) : Dx := ⟨d.pub, d.ps.map eraF, eraF d.res, d.body⟩
def eraP (P : Px) : Px := ⟨P.imps, P.defs.map eraD⟩
theorem eraF_two (f : Fx) : eraF (eraF f) = eraF f := rfl
theorem eraD_two (d : Dx) : eraD (eraD d) = eraD d := by
  unfold eraD
  simp only [List.map_map, eraF_two]
  congr 1
theorem eraP_two (P : Px) : eraP (eraP P) = eraP P := by
  unfold eraP
  simp only [List.map_map]
  congr 1
  apply List.map_congr_left
  intro d _
  exact eraD_two d
/-- The row of a parameter without its clause. -/
def eraRow (f : Fx) : List Value := [strV f.nm, .int .i64 (f.base : Int), .slice none 0 0, .int .i64 (f.ps : Int), .int .i64 f.bare]
theorem era_pat (F : Nat → Prop) (w : World) (f : Fx) : PAt F w (eraF f) (eraRow f) := ⟨none, 0, [], rfl, .inl rfl, by simp only [eraF, LsE], fun h => absurd rfl h⟩
theorem era_pats (F : Nat → Prop) (w : World) : ∀ l : List Fx, PsAt F w (l.map eraF) (l.map eraRow)
  | [] => by simp [PsAt]
  | f :: l => by simp only [List.map_cons, PsAt]; exact ⟨_, _, rfl, era_pat F w f, era_pats F w l⟩
def EraPost (F : Nat → Prop) (d : Dx) (w : World) (e : Ending) (w' : World) : Prop := w.grownBy w' none ∧ ∃ q, e = .returned (.agg q.toArray) ∧ DAt (fun k => F k ∨ w.heap.size ≤ k) w' (eraD d) q
theorem set_cells15 {W : World} {B : Nat} {T : TypeId} {x0 x1 x2 x3 x4 x5 x6 x7 x8 x9 x10 x11 x12 x13 x14 : Value} (h0 : W.heap[B]? = some (.cells #[x0, x1, x2, x3, x4, x5, x6, x7, x8, x9, x10, x11, x12, x13, x14] T (0, 0))) (v1 v2 v4 a b c d e f g h : Value) :
    (((((((((((W.setCell ⟨B, 1, none⟩ v1).setCell ⟨B, 2, none⟩ v2).setCell ⟨B, 4, none⟩ v4).setCell ⟨B, 5, none⟩ a).setCell ⟨B, 6, none⟩ b).setCell ⟨B, 7, none⟩ c).setCell ⟨B, 8, none⟩ d).setCell ⟨B, 9, none⟩ e).setCell ⟨B, 10, none⟩ f).setCell ⟨B, 11, none⟩ g).setCell ⟨B, 12, none⟩ h).heap[B]? = some (.cells #[x0, v1, v2, x3, v4, a, b, c, d, e, f, g, h, x13, x14] T (0, 0)) ∧
    Fr2 (Self B) W (((((((((((W.setCell ⟨B, 1, none⟩ v1).setCell ⟨B, 2, none⟩ v2).setCell ⟨B, 4, none⟩ v4).setCell ⟨B, 5, none⟩ a).setCell ⟨B, 6, none⟩ b).setCell ⟨B, 7, none⟩ c).setCell ⟨B, 8, none⟩ d).setCell ⟨B, 9, none⟩ e).setCell ⟨B, 10, none⟩ f).setCell ⟨B, 11, none⟩ g).setCell ⟨B, 12, none⟩ h) := by
  have h1 : (W.setCell ⟨B, 1, none⟩ v1).heap[B]? = some (.cells #[x0, v1, x2, x3, x4, x5, x6, x7, x8, x9, x10, x11, x12, x13, x14] T (0, 0)) := set_cells (i := 1) (u := v1) h0
  have h2 : ((W.setCell ⟨B, 1, none⟩ v1).setCell ⟨B, 2, none⟩ v2).heap[B]? = some (.cells #[x0, v1, v2, x3, x4, x5, x6, x7, x8, x9, x10, x11, x12, x13, x14] T (0, 0)) := set_cells (i := 2) (u := v2) h1
  have h3 : (((W.setCell ⟨B, 1, none⟩ v1).setCell ⟨B, 2, none⟩ v2).setCell ⟨B, 4, none⟩ v4).heap[B]? = some (.cells #[x0, v1, v2, x3, v4, x5, x6, x7, x8, x9, x10, x11, x12, x13, x14] T (0, 0)) := set_cells (i := 4) (u := v4) h2
  have h4 := put8o h3 a b c d e f g h
  exact ⟨h4.1, ((((Fr2.setCell (Fr2.refl (Self B) W) (g := B) (j := 1) (mine B) v1).setCell (g := B) (j := 2) (mine B) v2).setCell (g := B) (j := 4) (mine B) v4).trans h4.2)⟩

theorem own_offS {S : Nat → Prop} {s B n c : Nat} {T : TypeId} {w w' : World} {p : Option Addr} {l : List (List Value)} (h : OwnG s T w B (.slice p n c) l) (hf : Fr2 S w w') (hg : ∀ k, (Value.slice p n c).ownBlock = some k → ¬ S k) : OwnG s T w' B (.slice p n c) l :=
  ⟨⟨h.1.1, h.1.2.imp id fun ⟨k, cap, cur, e, hb1, hh, r⟩ => ⟨k, cap, cur, e, hb1, (hf.block k (hlt hh) (hg k (by rw [e]; rfl))).trans hh, r⟩⟩, h.2⟩
/-- The end of erase. -/
theorem era_fin {F : Nat → Prop} {d : Dx} {w w3 WE : World} {b0 b1 B j cv2 n8 c8 n8' c8' : Nat} {p2 z8 z8' : Option Addr} {yn a8 b8 : ByteArray} {s8 y8 : Bool} {o8 p8 : Int} (hgf : w.grownBy WE none) (hff : Fr2 (fun k => k = b0 ∨ k = b1) w3 WE)
    (hO : OwnG 5 73 w3 B (.slice p2 j cv2) ((d.ps.take j).map eraRow)) (hn : d.ps.length = j) (h0 : w.heap.size = b0) (h1 : b1 = w.heap.size + 1) (hB : w.heap.size + 2 = B)
    (hq : EAt (fun k => (F k ∧ k < w.heap.size) ∨ w.heap.size + 2 ≤ k) w3 d.body [.int .i64 o8, .string a8, .string b8, .bool s8, .slice z8 n8 c8, .bool y8, .slice z8' n8' c8', .int .i64 p8]) (hy : (⟨d.res.nm.toArray⟩ : ByteArray) = yn) :
    EraPost F d w (.returned (.agg #[.bool d.pub, .string yn, .slice p2 j cv2, .int .i64 (d.res.base : Int), .slice none 0 0, .int .i64 o8, .string a8, .string b8, .bool s8, .slice z8 n8 c8, .bool y8, .slice z8' n8' c8', .int .i64 p8, .int .i64 (d.res.ps : Int), .int .i64 d.res.bare])) WE := by
  have hOE := own_offS hO hff (fun k hk e => by have h2 := (OwnG.at hO k hk).1; rcases e with e | e <;> omega)
  have heq := (EAt.same hff (fun k hk e => by
    rcases hk with hk | hk
    · have h2 := hk.2
      rcases e with e | e <;> omega
    · rcases e with e | e <;> omega) hq).mono (F' := fun k => F k ∨ w.heap.size ≤ k) (fun k hk => by
    rcases hk with hk | hk
    · exact .inl hk.1
    · exact .inr (by omega))
  rw [List.take_of_length_le (by omega)] at hOE
  obtain ⟨p5, c5, he5, hga5, -⟩ := hOE.is
  injection he5 with e1 e2 e3
  subst e1
  refine ⟨hgf, _, rfl, p2, j, cv2, d.ps.map eraRow, none, 0, 0, [.int .i64 o8, .string a8, .string b8, .bool s8, .slice z8 n8 c8, .bool y8, .slice z8' n8' c8', .int .i64 p8], ?_, era_pat _ _ _, heq, ?_, hga5, era_pats _ _ _, fun h9 => ?_⟩
  · subst hy; rfl
  · rw [show (eraD d).ps = d.ps.map eraF from rfl, List.length_map, hn]
  · rcases hOE.1.2 with ⟨h2, h3⟩ | ⟨k, cap, cur, h2, h3, -⟩
    · rw [List.length_map] at h3
      exact absurd (List.map_eq_nil_iff.2 (List.eq_nil_of_length_eq_zero h3)) h9
    · injection h2 with h2 h4 h5
      exact ⟨_, h2, .inr (by show w.heap.size ≤ k; omega)⟩
theorem own_off2 {s B g n c : Nat} {T : TypeId} {w w' : World} {p : Option Addr} {l : List (List Value)} (h : OwnG s T w B (.slice p n c) l) (hf : Fr2 (fun k => k = g) w w') (hg : ∀ k, (Value.slice p n c).ownBlock = some k → k ≠ g) : OwnG s T w' B (.slice p n c) l :=
  ⟨⟨h.1.1, h.1.2.imp id fun ⟨k, cap, cur, e, hb1, hh, r⟩ => ⟨k, cap, cur, e, hb1, (hf.block k (hlt hh) (hg k (by rw [e]; rfl))).trans hh, r⟩⟩, h.2⟩
theorem par_cells {F : Nat → Prop} {w : World} {pp : Option Addr} {rows : List (List Value)} {ps : List Fx} (hg : GAt 5 w pp rows) (hls : PsAt F w ps rows) {j : Nat} {f : Fx} (hk : ps[j]? = some f) :
    ∃ (z : Option Addr) (n c g off : Nat), pp = some ⟨g, off, none⟩ ∧ g < w.heap.size ∧
      w.cell? ⟨g, off + j * 5, none⟩ = some (.string ⟨f.nm.toArray⟩) ∧ w.cell? ⟨g, off + j * 5 + 1, none⟩ = some (.int .i64 (f.base : Int)) ∧ w.cell? ⟨g, off + j * 5 + 2, none⟩ = some (.slice z n c) ∧ w.cell? ⟨g, off + j * 5 + 3, none⟩ = some (.int .i64 (f.ps : Int)) ∧ w.cell? ⟨g, off + j * 5 + 4, none⟩ = some (.int .i64 f.bare) := by
  obtain ⟨qx, hqx, hP⟩ := Ps_get hls hk
  obtain ⟨g, off, rfl, hgl, hc⟩ := hg.resolve_left (fun e => by rw [e] at hqx; simp at hqx)
  obtain ⟨z, n, c, rfl⟩ := hP.form
  have hc := hc j _ hqx
  have c0 := hc 0 _ rfl
  rw [Nat.add_zero] at c0
  exact ⟨z, n, c, g, off, rfl, hgl, c0, hc 1 _ rfl, hc 2 _ rfl, hc 3 _ rfl, hc 4 _ rfl⟩

set_option maxRecDepth 100000 in
set_option maxHeartbeats 16000000 in
theorem erase_c (F : Nat → Prop) (d : Dx) (q : List Value) (w : World) (hx : DAt F w d q) (hsz : sizE d.body ≤ 1000000) (hal : allS d.body) (hnm : d.res.nm.length ≤ 1000000) (hps : d.ps.length ≤ 1000000) (hpn : ∀ f ∈ d.ps, f.nm.length ≤ 1000000) :
    Calls Tryz.prog 35 #[.agg q.toArray] w (EraPost F d w) := by
  obtain ⟨pp, np, cp, prow, pc, nc, cc, qb, rfl, hR, hE, hnp, hga, hPs, -⟩ := hx
  obtain ⟨o9, p9, a9, b9, s9, y9, z9, z9', n9, c9, n9', c9', rfl⟩ := hE.form
  subst hnp
  have HE := Lib.hid hE; have HGA := Lib.hid hga; have HPS := Lib.hid hPs; have HPN := Lib.hid hpn
  have HCL := Lib.hid (fun (l : List UInt8) (W : World) (h : l.length ≤ 1000000) => Clone_c ⟨l.toArray⟩ W (by rw [← list_len]; show l.length ≤ _; omega))
  have HOW := Lib.hid (fun W (h : w.grownBy W none) (hs : w.heap.size + 2 ≤ W.heap.size) => (own_c (fun k => F k ∧ k < w.heap.size) d.body _ W (hE.bound.kept h) hsz hal).mono (R' := fun e w' => W.grownBy w' none ∧ ∃ q, e = .returned (.agg q.toArray) ∧ EAt (fun k => (F k ∧ k < w.heap.size) ∨ w.heap.size + 2 ≤ k) w' d.body q) (by
    rintro e w' ⟨h1, q, h2, h3⟩
    exact ⟨h1, q, h2, h3.mono (fun k hk => hk.imp id (fun h => Nat.le_trans hs h))⟩))
  have HNL := Lib.hid hnm
  obtain ⟨n, hn⟩ : ∃ n, d.ps.length = n := ⟨_, rfl⟩
  have HN := Lib.hid hn
  simp only [List.cons_append, List.nil_append]
  unfold strV
  obtain ⟨yn, hyn⟩ : ∃ y : ByteArray, (⟨d.res.nm.toArray⟩ : ByteArray) = y := ⟨_, rfl⟩
  have HYN := Lib.hid hyn
  rw [hyn]
  have hCN := Lib.hid (fun W => HCL.out d.res.nm W HNL.out)
  rw [hyn] at hCN
  rw [hn] at hps ⊢
  clear hR hE hga hPs hsz hal hnm hn hpn hyn
  go_enter Tryz.func35, Tryz.ntmps35
  go_wp2_with fail
  obtain ⟨W, b0, b1, hW, e0, e1, hB0, hB1, hgW, h01⟩ := two w (.cells #[.bool d.pub, .string yn, .slice pp n cp, .int .i64 (d.res.base : Int), .slice pc nc cc, .int .i64 o9, .string a9, .string b9, .bool s9, .slice z9 n9 c9, .bool y9, .slice z9' n9' c9', .int .i64 p9, .int .i64 (d.res.ps : Int), .int .i64 d.res.bare] 62) (.cells #[.bool false, .string ⟨#[]⟩, .slice none 0 0, .int .i64 0, .slice none 0 0, .int .i64 0, .string ⟨#[]⟩, .string ⟨#[]⟩, .bool false, .slice none 0 0, .bool false, .slice none 0 0, .int .i64 0, .int .i64 0, .int .i64 0] 62)
  have hsW : W.heap.size = b1 + 1 := by rw [hW]; simp; omega
  have HB0 := Lib.hid hB0; have HB1 := Lib.hid hB1; have HGW := Lib.hid hgW; have HE0 := Lib.hid e0
  try rw [← hW]
  try rw [e1]
  try rw [e0]
  obtain ⟨B, hB⟩ : ∃ B, W.heap.size = B := ⟨_, rfl⟩
  have HBS := Lib.hid hB
  have HBB : Hid (b0 < B ∧ b1 < B ∧ w.heap.size ≤ B) := Lib.hid (by omega)
  have HB2 : Hid (w.heap.size + 2 = B ∧ b1 = w.heap.size + 1) := Lib.hid (by omega)
  clear hB0 hB1 hgW e0 e1 hW hsW hB
  go_loopg [3, 9] n (fun gk av iv wr => ∃ j : Nat, j ≤ n ∧ iv = .int .i64 (j : Int) ∧ n - j ≤ gk ∧ gk ≤ n ∧ Hid (OwnG 5 73 wr B av ((d.ps.take j).map eraRow)) ∧ Hid (Fr2 (fun k => B ≤ k) W wr))
  case atStart => exact ⟨0, Nat.zero_le _, rfl, by omega, Nat.le_refl _, Lib.hid (OwnG.nil _ _ _ _), Lib.hid (Fr2.refl _ _)⟩
  case round =>
    obtain ⟨j, hj, rfl, hgk, hgm, HO, HF⟩ := hrel
    have HGr : Hid (w.grownBy wr none) := Lib.hid (Fr2.after HGW.out HF.out (fun k hk => Nat.le_trans HBB.out.2.2 hk))
    have HB0r := Lib.hid (HF.out.keep HB0.out (by have := HBB.out; omega)); have HB1r := Lib.hid (HF.out.keep HB1.out (by have := HBB.out; omega))
    have HBr : Hid (B ≤ wr.heap.size) := Lib.hid (by have := HF.out.size; have := HBS.out; omega)
    by_cases hlj : j < n
    · obtain ⟨f, hf⟩ : ∃ f, d.ps[j]? = some f := ⟨d.ps[j]'(by rw [HN.out]; exact hlj), List.getElem?_eq_getElem _⟩
      obtain ⟨z, zn, zc, g, off, rfl, hgl, c0, c1, c2, c3, c4⟩ := par_cells HGA.out HPS.out hf
      have HTK : Hid (d.ps.take (j + 1) = d.ps.take j ++ [f]) := Lib.hid (by rw [List.take_add_one, hf]; rfl)
      have c0 := HGr.out.cell c0 (by simp); have c1 := HGr.out.cell c1 (by simp); have c2 := HGr.out.cell c2 (by simp); have c3 := HGr.out.cell c3 (by simp); have c4 := HGr.out.cell c4 (by simp)
      have hgl : g < wr.heap.size := Nat.lt_of_lt_of_le hgl HGr.out.size
      have hCF := Lib.hid (fun W => HCL.out f.nm W (HPN.out f (List.mem_of_getElem? hf)))
      obtain ⟨yf, hyf⟩ : ∃ y : ByteArray, (⟨f.nm.toArray⟩ : ByteArray) = y := ⟨_, rfl⟩
      have HYF := Lib.hid hyf
      rw [hyf] at c0 hCF
      obtain ⟨p2, cv2, rfl, -⟩ := HO.out.is
      obtain ⟨LS, hLS⟩ : ∃ LS, (d.ps.take j).map eraRow = LS := ⟨_, rfl⟩
      have HLS := Lib.hid hLS
      have hO := HO.out
      rw [hLS] at hO ⊢
      obtain ⟨n2, hn2⟩ : ∃ n2, LS.length = n2 := ⟨_, rfl⟩
      have HN2 := Lib.hid hn2
      have HNB : Hid (n2 ≤ 1000000) := Lib.hid (by rw [← hn2, ← hLS, List.length_map, List.length_take, HN.out]; omega)
      rw [hn2] at hO ⊢
      have HO2 := Lib.hid hO
      have i1 : (0 : Int) ≤ (j : Int) := by omega
      have i2 : (j : Int) < (n : Int) := by omega
      have i3 : decide (j < n) = true := decide_eq_true hlj
      have i4 : decide ((j : Int) < (n : Int)) = true := decide_eq_true i2
      clear hf hLS hO hn2 HO hyf
      go_wp2_with fail
      obtain ⟨WX, b5, hWX, e5, hB5, hgX⟩ := three0 wr (.cells #[.string yf, .int .i64 (f.base : Int), .slice z zn zc, .int .i64 (f.ps : Int), .int .i64 f.bare] 73)
      have HB5 := Lib.hid hB5; have HGX := Lib.hid hgX; have HE5 := Lib.hid e5
      clear hB5 hgX
      try rw [← hWX]
      try rw [e5]
      clear e5 hWX
      refine (hCF.out WX).mono ?_
      rintro e w2 ⟨rfl, hg2⟩
      have HG2 := Lib.hid (gb_trans HGX.out hg2)
      have HB52 := Lib.hid (bx hg2 HB5.out)
      obtain ⟨r0, r1, r2, r3, r4, r5⟩ := cells5c HB52.out
      have hb5 : b5 < w2.heap.size := hlt HB52.out
      clear hg2 c0 c1 c2 c3 c4
      have hnw : g ≠ b5 := by have := HE5.out; omega
      obtain ⟨W3, hW3⟩ : ∃ W3, (w2.setCell ⟨b5, 0, none⟩ (.string yf)).setCell ⟨b5, 2, none⟩ (.slice none 0 0) = W3 := ⟨_, rfl⟩
      have hf3 : Fr2 (fun k => k = b5) w2 W3 := by rw [← hW3]; exact (set_fr w2 b5 0 _).trans (set_fr _ b5 2 _)
      have hB3 : W3.heap[b5]? = some (.cells #[.string yf, .int .i64 (f.base : Int), .slice none 0 0, .int .i64 (f.ps : Int), .int .i64 f.bare] 73 (0, 0)) := by
        rw [← hW3]; exact set_cells (i := 2) (u := .slice none 0 0) (set_cells (i := 0) (u := .string yf) HB52.out)
      have hO3 : OwnG 5 73 W3 B (.slice p2 n2 cv2) LS := own_off2 (HO2.out.kept HG2.out) hf3 (fun k hk => by have h1 := (OwnG.at HO2.out k hk).2; have := HE5.out; omega)
      have HW3 := Lib.hid hW3; have HF3 := Lib.hid hf3; have HB3 := Lib.hid hB3; have HO3 := Lib.hid hO3
      have HS3 : Hid (B ≤ W3.heap.size) := Lib.hid (Nat.le_trans HBr.out (Nat.le_trans HG2.out.size hf3.size))
      clear hW3 hf3 hB3 hO3 HO2
      go_wp2_with (at_builtin; go_loud (refine wpList_appGg (s := 5) (t := 54) (T := 73) (by decide) Tryz.underlying54 infoPar rfl (by omega) rfl _ _ rfl B LS [.string yf, .int .i64 (f.base : Int), .slice none 0 0, .int .i64 (f.ps : Int), .int .i64 f.bare] rfl (fun u hu => by simp at hu; rcases hu with rfl | rfl | rfl | rfl | rfl <;> rfl) (.slice p2 n2 cv2) rfl (by rw [HW3.out]; exact HO3.out) w2.heap.size (by simp) rfl (by rw [HN2.out]; exact HNB.out) (by rw [HW3.out]; exact HS3.out) _ rfl ?_))
      intro g9 cap9 w9 hO9 hg9
      rw [HW3.out] at hg9
      have hal := World.grownBy_alloc W3 (.cells #[.string yf, .int .i64 (f.base : Int), .slice none 0 0, .int .i64 (f.ps : Int), .int .i64 f.bare] 73) none
      have hfr9 : Fr2 (fun i => (Value.slice p2 n2 cv2).ownBlock = some i) (W3.alloc (.cells #[.string yf, .int .i64 (f.base : Int), .slice none 0 0, .int .i64 (f.ps : Int), .int .i64 f.bare] 73)) w9 := Fr2.of hg9 (fun i e => e)
      have HF9 : Hid (Fr2 (fun k => B ≤ k) W w9) := Lib.hid ((HF.out.trans (Fr2.none HG2.out)).trans (((HF3.out.trans (Fr2.none hal)).mono (fun k hk => by have e : k = b5 := hk; have := HE5.out; have := HBr.out; show B ≤ k; omega)).trans (hfr9.mono (fun k hk => (OwnG.at HO3.out k hk).1))))
      have HO9 : Hid (OwnG 5 73 w9 B (.slice (some ⟨g9, 0, none⟩) (n2 + 1) cap9) ((d.ps.take (j + 1)).map eraRow)) := Lib.hid (by
        have h9 := hO9
        rw [HN2.out] at h9
        rw [HTK.out, List.map_append, HLS.out]
        have e : [f].map eraRow = [[.string yf, .int .i64 (f.base : Int), .slice none 0 0, .int .i64 (f.ps : Int), .int .i64 f.bare]] := by
          simp only [List.map_cons, List.map_nil, eraRow, strV, HYF.out]
        rw [e]; exact h9)
      rw [HN2.out]
      have hjb : n ≤ 1000000 := hps
      have hw9 : IntKind.i64.wrap ((j : Int) + 1) = ((j + 1 : Nat) : Int) := by rw [IntWalk.i64_in _ (by omega)]; omega
      clear hal hfr9 hO9 hg9 r0 r1 r2 r3 r4 r5 hb5
      go_wp2_with fail
      go_roundg (n - (j + 1))
      case measure => omega
      case rel => exact ⟨j + 1, by omega, by first | rfl | go_num, Nat.le_refl _, by omega, HO9, HF9⟩
    · obtain rfl : j = n := by omega
      obtain ⟨p2, cv2, rfl, -⟩ := HO.out.is
      have hlen : ((d.ps.take j).map eraRow).length = j := by rw [List.length_map, List.length_take, HN.out]; omega
      have HO2 := HO.out
      rw [hlen] at HO2 ⊢
      have HO2 := Lib.hid HO2
      obtain ⟨r0, r1, r2, r3, r4, r5, r6, r7, r8, r9, r10, r11, r12, r13, r14, r15⟩ := cells15c HB0r.out
      have hb0 : b0 < wr.heap.size := hlt HB0r.out
      have hfz : ∀ k, wr.frozen? ⟨b0, k, none⟩ = false := fun k => frozen_none HB0r.out k
      clear hlen
      go_wp2_with fail
      go_region_law (first
        | (go_simp; go_at_call 34; refine (hCN.out _).mono ?_; rintro e w2 ⟨rfl, hg2⟩; have HG2 := Lib.hid (gb_trans (show wr.grownBy _ none from (by repeat (first | with_reducible exact gb_refl _ _ | with_reducible refine gb_drew ?_ | with_reducible refine gb_drewN ?_ _))) hg2); have HB02 := Lib.hid (bx HG2.out HB0r.out); obtain ⟨r0, r1, r2, r3, r4, r5, r6, r7, r8, r9, r10, r11, r12, r13, r14, r15⟩ := cells15c HB02.out; have hb0 : b0 < w2.heap.size := hlt HB02.out; clear hg2)
        | (go_simp; go_at_call 65; refine (HOW.out _ (gb_trans HGr.out (gb_trans HG2.out (show w2.grownBy _ none from (by repeat (first | with_reducible exact gb_refl _ _ | with_reducible refine gb_drew ?_ | with_reducible refine gb_drewN ?_ _))))) (show w.heap.size + 2 ≤ w2.heap.size by have h1 := HG2.out.size; have h2 := HBr.out; have h3 := HB2.out.1; omega)).mono ?_; rintro e w3 ⟨hg3, q3, rfl, hq3⟩; obtain ⟨o8, p8, a8, b8, s8, y8, z8, z8', n8, c8, n8', c8', rfl⟩ := hq3.form; have HQ3 := Lib.hid hq3; have HG3 := Lib.hid (gb_trans HG2.out (gb_trans (show w2.grownBy _ none from (by repeat (first | with_reducible exact gb_refl _ _ | with_reducible refine gb_drew ?_ | with_reducible refine gb_drewN ?_ _))) hg3)); have HB03 := Lib.hid (bx HG3.out HB0r.out); obtain ⟨r0, r1, r2, r3, r4, r5, r6, r7, r8, r9, r10, r11, r12, r13, r14, r15⟩ := cells15c HB03.out; have hb0 : b0 < w3.heap.size := hlt HB03.out; clear hg3 hq3))
      all_goals
        obtain ⟨hBS, hfS⟩ := set_cells15 HB03.out (.string yn) (.slice p2 j cv2) (.slice none 0 0) (.int .i64 o8) (.string a8) (.string b8) (.bool s8) (.slice z8 n8 c8) (.bool y8) (.slice z8' n8' c8') (.int .i64 p8)
        obtain ⟨WS, hWS⟩ : ∃ WS, (((((((((((w3.setCell ⟨b0, 1, none⟩ (.string yn)).setCell ⟨b0, 2, none⟩ (.slice p2 j cv2)).setCell ⟨b0, 4, none⟩ (.slice none 0 0)).setCell ⟨b0, 5, none⟩ (.int .i64 o8)).setCell ⟨b0, 6, none⟩ (.string a8)).setCell ⟨b0, 7, none⟩ (.string b8)).setCell ⟨b0, 8, none⟩ (.bool s8)).setCell ⟨b0, 9, none⟩ (.slice z8 n8 c8)).setCell ⟨b0, 10, none⟩ (.bool y8)).setCell ⟨b0, 11, none⟩ (.slice z8' n8' c8')).setCell ⟨b0, 12, none⟩ (.int .i64 p8)) = WS := ⟨_, rfl⟩
        rw [hWS] at hBS hfS ⊢
        have hB1S := hfS.keep (bx HG3.out HB1r.out) (fun e => by have e : b1 = b0 := e; omega)
        have HFS := Lib.hid hfS; have HB1S := Lib.hid hB1S
        have HRG := Lib.hid (range_of (cs := [.bool d.pub, .string yn, .slice p2 j cv2, .int .i64 (d.res.base : Int), .slice none 0 0, .int .i64 o8, .string a8, .string b8, .bool s8, .slice z8 n8 c8, .bool y8, .slice z8' n8' c8', .int .i64 p8, .int .i64 (d.res.ps : Int), .int .i64 d.res.bare]) hBS)
        clear hWS r0 r1 r2 r3 r4 r5 r6 r7 r8 r9 r10 r11 r12 r13 r14 r15
        obtain ⟨g0, g1, g2, g3, g4, g5, g6, g7, g8, g9, g10, g11, g12, g13, g14, g15⟩ := cells15c hB1S
        have hb1 : b1 < WS.heap.size := hlt hB1S
        clear hfS hBS hB1S
        go_wp2_with (refine wpList_load_mid rfl 62 _ rfl b0 0 rfl [.bool d.pub, .string yn, .slice p2 j cv2, .int .i64 (d.res.base : Int), .slice none 0 0, .int .i64 o8, .string a8, .string b8, .bool s8, .slice z8 n8 c8, .bool y8, .slice z8' n8' c8', .int .i64 p8, .int .i64 (d.res.ps : Int), .int .i64 d.res.bare] _ HRG.out Tryz.underlying62 rfl sizeDef ?_)
        obtain ⟨hp, hfp⟩ := put15c HB1S.out (.bool d.pub) (.string yn) (.slice p2 j cv2) (.int .i64 (d.res.base : Int)) (.slice none 0 0) (.int .i64 o8) (.string a8) (.string b8) (.bool s8) (.slice z8 n8 c8) (.bool y8) (.slice z8' n8' c8') (.int .i64 p8) (.int .i64 (d.res.ps : Int)) (.int .i64 d.res.bare)
        obtain ⟨r0, r1, r2, r3, r4, r5, r6, r7, r8, r9, r10, r11, r12, r13, r14, -⟩ := cells15c hp
        have hff : Fr2 (fun k => k = b0 ∨ k = b1) w3 _ := (HFS.out.mono (fun k hk => .inl hk)).trans (hfp.mono (fun k hk => .inr hk))
        have hgf := Fr2.after (gb_trans HGr.out HG3.out) hff (fun k hk => by have := HE0.out; rcases hk with rfl | rfl <;> omega)
        have hP := era_fin (F := F) (d := d) hgf hff (HO2.out.kept HG3.out) HN.out HE0.out HB2.out.2 HB2.out.1 HQ3.out HYN.out
        have HP := Lib.hid hP
        clear hP hgf hff hfp hp
        refine bodyPost_ret (v := .agg #[.bool d.pub, .string yn, .slice p2 j cv2, .int .i64 (d.res.base : Int), .slice none 0 0, .int .i64 o8, .string a8, .string b8, .bool s8, .slice z8 n8 c8, .bool y8, .slice z8' n8' c8', .int .i64 p8, .int .i64 (d.res.ps : Int), .int .i64 d.res.bare]) (by simp [results, Tryz.results35, go_sem, r0, r1, r2, r3, r4, r5, r6, r7, r8, r9, r10, r11, r12, r13, r14]) rfl HP.out
end Go.Proofs.YtoahgeleenpnjaaGreatDoor
