/- Lemmas. -/
import Derived.Test.YtddccnpohpaofaaGreatDoorP19
set_option linter.unusedVariables false
set_option linter.unusedSimpArgs false
namespace Go.Proofs.YtddccnpohpaofaaGreatDoor
open Go.RowKit

set_option maxRecDepth 100000 in
set_option maxHeartbeats 8000000 in
theorem with10 (T : List Tok) (p : Option Addr) (c : Nat) (w : World) (hT : T.length ≤ 150000) (h0 : 0 < T.length) (hla : LaidS w) (ht : TAt w p T) :
    Calls Tryz.prog 49 #[.int .i64 10, .slice p T.length c] w (ExPost0 (nodeE 10 (tkT T) []) w) := by
  obtain ⟨g, off, rfl, hgl, t0, t1, t2, t3⟩ := tok_cells ht (i := 0) h0
  rw [Nat.zero_mul, Nat.add_zero] at t0 t1 t2 t3
  have HX : Hid (∀ w', w.grownBy w' none → ExPost0 (nodeE 10 (tkT T) []) w (.returned (.agg #[.int .i64 (binE (tkT T 0).text : Nat), .string ⟨#[]⟩, .string ⟨#[]⟩, .bool false, .slice none 0 0, .bool false, .slice none 0 0, .int .i64 ((tkT T 0).pos : Int)])) w') := Lib.hid (fun w' hg => ⟨hg, _, rfl, ex_plain (by unfold binE; split <;> omega), rfl⟩)
  have HC : Hid (∀ W, LaidS W → Calls Tryz.prog 82 #[.string ⟨(tkT T 0).text.toArray⟩] W (ValPost (.int .i64 (binE (tkT T 0).text : Nat)) W)) := Lib.hid (fun W h => by have := binary_c ⟨(tkT T 0).text.toArray⟩ W h; exact this)
  have HLS := Lib.hid hla
  generalize binE (tkT T 0).text = opn at *
  have HTT := Lib.hid ht
  obtain ⟨m, hm⟩ : ∃ m, T.length = m := ⟨_, rfl⟩
  have HM := Lib.hid hm
  have h0' := h0
  rw [hm] at h0' ⊢
  have z0 : decide (0 < m) = true := decide_eq_true h0'
  have z0' : decide ((0 : Int) < (m : Int)) = true := decide_eq_true (by omega)
  unfold strV at t1 t2
  generalize (⟨(tkT T 0).lead.toArray⟩ : ByteArray) = le at *
  generalize (⟨(tkT T 0).text.toArray⟩ : ByteArray) = te at *
  generalize (tkT T 0).kind = k at *
  generalize (tkT T 0).pos = ps at *
  clear ht hm hT h0 hla
  go_enter Tryz.func49, Tryz.ntmps49
  go_wp2_with fail
  obtain ⟨W, b0, b1, b2, hW, e0, e1, e2, hB0, hB1, hB2, hgW, h01, h12⟩ := three w (.cells #[.int .i64 0, .string ⟨#[]⟩, .string ⟨#[]⟩, .bool false, .slice none 0 0, .bool false, .slice none 0 0, .int .i64 0] 30) (.cells #[.int .i64 (k : Int), .string le, .string te, .int .i64 (ps : Int)] 98) (.cells #[.int .i64 0, .string ⟨#[]⟩, .string ⟨#[]⟩, .bool false, .slice none 0 0, .bool false, .slice none 0 0, .int .i64 (ps : Int)] 30)
  have HB0 := Lib.hid hB0; have HB1 := Lib.hid hB1; have HB2 := Lib.hid hB2; have HGW := Lib.hid hgW
  have HE0 := Lib.hid e0
  clear hB0 hB1 hB2 hgW
  try rw [← hW]
  try rw [e2]
  try rw [e1]
  try rw [e0]
  clear e0 e1 e2 hW
  refine (HC.out _ (HLS.out.kept HGW.out)).mono ?_
  rintro e w1 ⟨rfl, hg1⟩
  have hB0 := bx hg1 HB0.out; have hB1 := bx hg1 HB1.out; have hB2 := bx hg1 HB2.out
  have HB0 := Lib.hid hB0; have HB2 := Lib.hid hB2; have HG1 := Lib.hid (gb_trans HGW.out hg1)
  obtain ⟨a0, a1, a2, a3, a4, a5, a6, a7, a8⟩ := cells8x hB0
  obtain ⟨c0, c1, c2, c3, c4, c5, c6, c7, c8⟩ := cells8x hB2
  clear hg1 hB0 hB1 hB2
  have HF2 : Hid (Fr2 (fun k => k = b0 ∨ k = b2) w1 (w1.setCell ⟨b2, 0, none⟩ (.int .i64 (opn : Int)))) := Lib.hid ((Fr2.refl (fun k => k = b0 ∨ k = b2) w1).setCell (g := b2) (j := 0) (.inr rfl) (.int .i64 (opn : Int)))
  have HS0 := Lib.hid (((Fr2.refl (fun k => k = b2) w1).setCell (g := b2) (j := 0) rfl (.int .i64 (opn : Int))).keep HB0.out (by omega))
  go_wp2_with fail
  obtain ⟨hp, hf⟩ := put8c HS0.out (.int .i64 (opn : Int)) (.string ⟨#[]⟩) (.string ⟨#[]⟩) (.bool false) (.slice none 0 0) (.bool false) (.slice none 0 0) (.int .i64 (ps : Int))
  obtain ⟨k0, k1, k2, k3, k4, k5, k6, k7, -⟩ := cells8x hp
  have HFX := Lib.hid (Fr2.after HG1.out (HF2.out.trans (hf.mono (fun _ h => .inl h))) (fun j hj => by have := HE0.out; rcases hj with h | h <;> omega))
  refine bodyPost_ret (v := .agg #[.int .i64 (opn : Int), .string ⟨#[]⟩, .string ⟨#[]⟩, .bool false, .slice none 0 0, .bool false, .slice none 0 0, .int .i64 (ps : Int)]) (by simp [results, Tryz.results49, go_sem, k0, k1, k2, k3, k4, k5, k6, k7]) rfl (HX.out _ HFX.out)

set_option maxRecDepth 100000 in
set_option maxHeartbeats 8000000 in
theorem with11 (T : List Tok) (p : Option Addr) (c : Nat) (w : World) (hT : T.length ≤ 150000) (h0 : 0 < T.length) (ht : TAt w p T) :
    Calls Tryz.prog 49 #[.int .i64 11, .slice p T.length c] w (ExPost0 (nodeE 11 (tkT T) []) w) := by
  obtain ⟨g, off, rfl, hgl, t0, t1, t2, t3⟩ := tok_cells ht (i := 0) h0
  rw [Nat.zero_mul, Nat.add_zero] at t0 t1 t2 t3
  have HX : Hid (∀ w', w.grownBy w' none → ExPost0 (nodeE 11 (tkT T) []) w (.returned (.agg #[.int .i64 (unE (tkT T 0).text : Nat), .string ⟨#[]⟩, .string ⟨#[]⟩, .bool false, .slice none 0 0, .bool false, .slice none 0 0, .int .i64 ((tkT T 0).pos : Int)])) w') := Lib.hid (fun w' hg => ⟨hg, _, rfl, ex_plain (by unfold unE; split <;> omega), rfl⟩)
  have HC : Hid (∀ W, Calls Tryz.prog 83 #[.string ⟨(tkT T 0).text.toArray⟩] W (ValPost (.int .i64 (unE (tkT T 0).text : Nat)) W)) := Lib.hid (fun W => by have := unary_c ⟨(tkT T 0).text.toArray⟩ W; exact this)
  generalize unE (tkT T 0).text = opn at *
  have HTT := Lib.hid ht
  obtain ⟨m, hm⟩ : ∃ m, T.length = m := ⟨_, rfl⟩
  have HM := Lib.hid hm
  have h0' := h0
  rw [hm] at h0' ⊢
  have z0 : decide (0 < m) = true := decide_eq_true h0'
  have z0' : decide ((0 : Int) < (m : Int)) = true := decide_eq_true (by omega)
  unfold strV at t1 t2
  generalize (⟨(tkT T 0).lead.toArray⟩ : ByteArray) = le at *
  generalize (⟨(tkT T 0).text.toArray⟩ : ByteArray) = te at *
  generalize (tkT T 0).kind = k at *
  generalize (tkT T 0).pos = ps at *
  clear ht hm hT h0
  go_enter Tryz.func49, Tryz.ntmps49
  go_wp2_with fail
  obtain ⟨W, b0, b1, b2, hW, e0, e1, e2, hB0, hB1, hB2, hgW, h01, h12⟩ := three w (.cells #[.int .i64 0, .string ⟨#[]⟩, .string ⟨#[]⟩, .bool false, .slice none 0 0, .bool false, .slice none 0 0, .int .i64 0] 30) (.cells #[.int .i64 (k : Int), .string le, .string te, .int .i64 (ps : Int)] 98) (.cells #[.int .i64 0, .string ⟨#[]⟩, .string ⟨#[]⟩, .bool false, .slice none 0 0, .bool false, .slice none 0 0, .int .i64 (ps : Int)] 30)
  have HB0 := Lib.hid hB0; have HB1 := Lib.hid hB1; have HB2 := Lib.hid hB2; have HGW := Lib.hid hgW
  have HE0 := Lib.hid e0
  clear hB0 hB1 hB2 hgW
  try rw [← hW]
  try rw [e2]
  try rw [e1]
  try rw [e0]
  clear e0 e1 e2 hW
  refine (HC.out _).mono ?_
  rintro e w1 ⟨rfl, hg1⟩
  have hB0 := bx hg1 HB0.out; have hB1 := bx hg1 HB1.out; have hB2 := bx hg1 HB2.out
  have HB0 := Lib.hid hB0; have HB2 := Lib.hid hB2; have HG1 := Lib.hid (gb_trans HGW.out hg1)
  obtain ⟨a0, a1, a2, a3, a4, a5, a6, a7, a8⟩ := cells8x hB0
  obtain ⟨c0, c1, c2, c3, c4, c5, c6, c7, c8⟩ := cells8x hB2
  clear hg1 hB0 hB1 hB2
  have HF2 : Hid (Fr2 (fun k => k = b0 ∨ k = b2) w1 (w1.setCell ⟨b2, 0, none⟩ (.int .i64 (opn : Int)))) := Lib.hid ((Fr2.refl (fun k => k = b0 ∨ k = b2) w1).setCell (g := b2) (j := 0) (.inr rfl) (.int .i64 (opn : Int)))
  have HS0 := Lib.hid (((Fr2.refl (fun k => k = b2) w1).setCell (g := b2) (j := 0) rfl (.int .i64 (opn : Int))).keep HB0.out (by omega))
  go_wp2_with fail
  obtain ⟨hp, hf⟩ := put8c HS0.out (.int .i64 (opn : Int)) (.string ⟨#[]⟩) (.string ⟨#[]⟩) (.bool false) (.slice none 0 0) (.bool false) (.slice none 0 0) (.int .i64 (ps : Int))
  obtain ⟨k0, k1, k2, k3, k4, k5, k6, k7, -⟩ := cells8x hp
  have HFX := Lib.hid (Fr2.after HG1.out (HF2.out.trans (hf.mono (fun _ h => .inl h))) (fun j hj => by have := HE0.out; rcases hj with h | h <;> omega))
  refine bodyPost_ret (v := .agg #[.int .i64 (opn : Int), .string ⟨#[]⟩, .string ⟨#[]⟩, .bool false, .slice none 0 0, .bool false, .slice none 0 0, .int .i64 (ps : Int)]) (by simp [results, Tryz.results49, go_sem, k0, k1, k2, k3, k4, k5, k6, k7]) rfl (HX.out _ HFX.out)

set_option maxRecDepth 100000 in
set_option maxHeartbeats 8000000 in
theorem with13 (T : List Tok) (p : Option Addr) (c : Nat) (w : World) (hT : T.length ≤ 150000) (h0 : 0 < T.length) (h1 : 1 < T.length) (h2 : (tkT T 1).text = [46] → 2 < T.length) (ht : TAt w p T) :
    Calls Tryz.prog 49 #[.int .i64 13, .slice p T.length c] w (ExPost0 (nodeE 13 (tkT T) []) w) := by
  obtain ⟨g, off, rfl, hgl, t0, t1, t2, t3⟩ := tok_cells ht (i := 0) h0
  rw [Nat.zero_mul, Nat.add_zero] at t0 t1 t2 t3
  have HX : Hid (∀ w', w.grownBy w' none → ExPost0 (nodeE 13 (tkT T) []) w (.returned (.agg #[.int .i64 24, strV (if (tkT T 1).text = [46] then (tkT T 2).text else (tkT T 0).text), strV (if (tkT T 1).text = [46] then (tkT T 0).text else []), .bool false, .slice none 0 0, .bool false, .slice none 0 0, .int .i64 ((tkT T 0).pos : Int)])) w') := Lib.hid (fun w' hg => ⟨hg, _, rfl, (by
    have e : nodeE 13 (tkT T) [] = .mk 24 (if (tkT T 1).text = [46] then (tkT T 2).text else (tkT T 0).text) (if (tkT T 1).text = [46] then (tkT T 0).text else []) [] false [] (tkT T 0).pos := by
      show (if (tkT T 1).text = [46] then _ else _) = _
      split <;> rfl
    rw [e]
    exact ex_plain (by decide)), rfl⟩)
  have HC := Lib.hid (fun W h => called_c T (some ⟨g, off, none⟩) c W hT h1 h2 h)
  unfold strV at HX HC
  generalize (⟨(if (tkT T 1).text = [46] then (tkT T 2).text else (tkT T 0).text).toArray⟩ : ByteArray) = nm at *
  generalize (⟨(if (tkT T 1).text = [46] then (tkT T 0).text else []).toArray⟩ : ByteArray) = md at *
  have HTT := Lib.hid ht
  obtain ⟨m, hm⟩ : ∃ m, T.length = m := ⟨_, rfl⟩
  have HM := Lib.hid hm
  rw [hm] at HC
  have h0' := h0
  rw [hm] at h0' ⊢
  have z0 : decide (0 < m) = true := decide_eq_true h0'
  have z0' : decide ((0 : Int) < (m : Int)) = true := decide_eq_true (by omega)
  unfold strV at t1 t2
  generalize (⟨(tkT T 0).lead.toArray⟩ : ByteArray) = le at *
  generalize (⟨(tkT T 0).text.toArray⟩ : ByteArray) = te at *
  generalize (tkT T 0).kind = k at *
  generalize (tkT T 0).pos = ps at *
  clear ht hm hT h0 h1 h2
  go_enter Tryz.func49, Tryz.ntmps49
  go_wp2_with fail
  obtain ⟨W, b0, b1, b2, hW, e0, e1, e2, hB0, hB1, hB2, hgW, h01, h12⟩ := three w (.cells #[.int .i64 0, .string ⟨#[]⟩, .string ⟨#[]⟩, .bool false, .slice none 0 0, .bool false, .slice none 0 0, .int .i64 0] 30) (.cells #[.int .i64 (k : Int), .string le, .string te, .int .i64 (ps : Int)] 98) (.cells #[.int .i64 24, .string ⟨#[]⟩, .string ⟨#[]⟩, .bool false, .slice none 0 0, .bool false, .slice none 0 0, .int .i64 (ps : Int)] 30)
  have HB0 := Lib.hid hB0; have HB1 := Lib.hid hB1; have HB2 := Lib.hid hB2; have HGW := Lib.hid hgW
  have HE0 := Lib.hid e0
  clear hB0 hB1 hB2 hgW
  try rw [← hW]
  try rw [e2]
  try rw [e1]
  try rw [e0]
  clear e0 e1 e2 hW
  refine (HC.out _ (HTT.out.kept HGW.out)).mono ?_
  rintro e w1 ⟨rfl, hg1⟩
  have hB0 := bx hg1 HB0.out; have hB1 := bx hg1 HB1.out; have hB2 := bx hg1 HB2.out
  have HB0 := Lib.hid hB0; have HB2 := Lib.hid hB2; have HG1 := Lib.hid (gb_trans HGW.out hg1)
  obtain ⟨a0, a1, a2, a3, a4, a5, a6, a7, a8⟩ := cells8x hB0
  obtain ⟨c0, c1, c2, c3, c4, c5, c6, c7, c8⟩ := cells8x hB2
  clear hg1 hB0 hB1 hB2
  have HF2 : Hid (Fr2 (fun k => k = b0 ∨ k = b2) w1 ((w1.setCell ⟨b2, 2, none⟩ (.string md)).setCell ⟨b2, 1, none⟩ (.string nm))) := Lib.hid (((Fr2.refl (fun k => k = b0 ∨ k = b2) w1).setCell (g := b2) (j := 2) (.inr rfl) (.string md)).setCell (g := b2) (j := 1) (.inr rfl) (.string nm))
  have HS0 := Lib.hid ((((Fr2.refl (fun k => k = b2) w1).setCell (g := b2) (j := 2) rfl (.string md)).setCell (g := b2) (j := 1) rfl (.string nm)).keep HB0.out (by omega))
  go_wp2_with fail
  obtain ⟨hp, hf⟩ := put8c HS0.out (.int .i64 24) (.string nm) (.string md) (.bool false) (.slice none 0 0) (.bool false) (.slice none 0 0) (.int .i64 (ps : Int))
  obtain ⟨k0, k1, k2, k3, k4, k5, k6, k7, -⟩ := cells8x hp
  have HFX := Lib.hid (Fr2.after HG1.out (HF2.out.trans (hf.mono (fun _ h => .inl h))) (fun j hj => by have := HE0.out; rcases hj with h | h <;> omega))
  refine bodyPost_ret (v := .agg #[.int .i64 24, .string nm, .string md, .bool false, .slice none 0 0, .bool false, .slice none 0 0, .int .i64 (ps : Int)]) (by simp [results, Tryz.results49, go_sem, k0, k1, k2, k3, k4, k5, k6, k7]) rfl (HX.out _ HFX.out)

set_option maxRecDepth 100000 in
set_option maxHeartbeats 8000000 in
theorem with15 (T : List Tok) (p : Option Addr) (c : Nat) (w : World) (hT : T.length ≤ 150000) (h0 : 0 < T.length) (hnum : numOk (tkT T 0).text) (ht : TAt w p T) :
    Calls Tryz.prog 49 #[.int .i64 15, .slice p T.length c] w (ExPost0 (nodeE 15 (tkT T) []) w) := by
  obtain ⟨g, off, rfl, hgl, t0, t1, t2, t3⟩ := tok_cells ht (i := 0) h0
  rw [Nat.zero_mul, Nat.add_zero] at t0 t1 t2 t3
  have HX : Hid (∀ w' s q n c', w.grownBy w' none → Zd.IsInt w' (.agg #[.bool s, .slice q n c']) (Zd.parseV (tkT T 0).text) → (0 < n → ∃ a, q = some a ∧ w.heap.size ≤ a.block) → ExPost0 (nodeE 15 (tkT T) []) w (.returned (.agg #[.int .i64 1, .string ⟨#[]⟩, .string ⟨#[]⟩, .bool s, .slice q n c', .bool false, .slice none 0 0, .int .i64 ((tkT T 0).pos : Int)])) w') := Lib.hid (fun w' s q n c' hg hi hf => ⟨hg, _, rfl, (by
    show EAt _ _ (.mk 1 [] [] (tkT T 0).text false [] (tkT T 0).pos) _
    simp only [EAt]
    exact ⟨s, q, n, c', none, 0, [], rfl, by unfold NumAt; rw [if_pos rfl]; exact ⟨hi, (num_parse hnum).1, hf⟩, GAt.nil, by simp [LsE], fun h => absurd rfl h⟩), rfl⟩)
  have HC : Hid (∀ W, Calls Tryz.prog 12 #[.string ⟨(tkT T 0).text.toArray⟩] W (Zd.ParsePost (tkT T 0).text W)) := Lib.hid (fun W => by have := Zd.Parse_c ⟨(tkT T 0).text.toArray⟩ W; exact this)
  have HPE : Hid (Zd.parseE (tkT T 0).text = 0) := Lib.hid (num_parse hnum).1
  have HTT := Lib.hid ht
  obtain ⟨m, hm⟩ : ∃ m, T.length = m := ⟨_, rfl⟩
  have HM := Lib.hid hm
  have h0' := h0
  rw [hm] at h0' ⊢
  have z0 : decide (0 < m) = true := decide_eq_true h0'
  have z0' : decide ((0 : Int) < (m : Int)) = true := decide_eq_true (by omega)
  unfold strV at t1 t2
  generalize (⟨(tkT T 0).lead.toArray⟩ : ByteArray) = le at *
  generalize (⟨(tkT T 0).text.toArray⟩ : ByteArray) = te at *
  generalize (tkT T 0).kind = k at *
  generalize (tkT T 0).pos = ps at *
  clear ht hm hT h0 hnum
  go_enter Tryz.func49, Tryz.ntmps49
  go_wp2_with fail
  obtain ⟨W, b0, b1, b2, hW, e0, e1, e2, hB0, hB1, hB2, hgW, h01, h12⟩ := three w (.cells #[.int .i64 0, .string ⟨#[]⟩, .string ⟨#[]⟩, .bool false, .slice none 0 0, .bool false, .slice none 0 0, .int .i64 0] 30) (.cells #[.int .i64 (k : Int), .string le, .string te, .int .i64 (ps : Int)] 98) (.cells #[.int .i64 1, .string ⟨#[]⟩, .string ⟨#[]⟩, .bool false, .slice none 0 0, .bool false, .slice none 0 0, .int .i64 (ps : Int)] 30)
  have HB0 := Lib.hid hB0; have HB1 := Lib.hid hB1; have HB2 := Lib.hid hB2; have HGW := Lib.hid hgW
  have HE0 := Lib.hid e0
  have HSW : Hid (b2 < W.heap.size) := Lib.hid (hlt hB2)
  clear hB0 hB1 hB2 hgW
  try rw [← hW]
  try rw [e2]
  try rw [e1]
  try rw [e0]
  clear e0 e1 e2 hW
  refine (HC.out _).mono ?_
  rintro e w1 ⟨x, rfl, hi, hg1, hfr⟩
  rw [HPE.out]
  obtain ⟨s, p', n', c', rfl, hi'⟩ := Zd.int_parts hi
  have HFR := Lib.hid (hfr s p' n' c' rfl)
  clear hi hfr
  have hB0 := bx hg1 HB0.out; have hB1 := bx hg1 HB1.out; have hB2 := bx hg1 HB2.out
  have HB0 := Lib.hid hB0; have HB2 := Lib.hid hB2; have HG1 := Lib.hid (gb_trans HGW.out hg1)
  obtain ⟨a0, a1, a2, a3, a4, a5, a6, a7, a8⟩ := cells8x hB0
  obtain ⟨c0, c1, c2, c3, c4, c5, c6, c7, c8⟩ := cells8x hB2
  clear hg1 hB0 hB1 hB2
  have HF2 : Hid (Fr2 (fun k => k = b0 ∨ k = b2) w1 ((w1.setCell ⟨b2, 3, none⟩ (.bool s)).setCell ⟨b2, 4, none⟩ (.slice p' n' c'))) := Lib.hid (((Fr2.refl (fun k => k = b0 ∨ k = b2) w1).setCell (g := b2) (j := 3) (.inr rfl) (.bool s)).setCell (g := b2) (j := 4) (.inr rfl) (.slice p' n' c'))
  have HS0 := Lib.hid ((((Fr2.refl (fun k => k = b2) w1).setCell (g := b2) (j := 3) rfl (.bool s)).setCell (g := b2) (j := 4) rfl (.slice p' n' c')).keep HB0.out (by omega))
  go_wp2_with fail
  obtain ⟨hp, hf⟩ := put8c HS0.out (.int .i64 1) (.string ⟨#[]⟩) (.string ⟨#[]⟩) (.bool s) (.slice p' n' c') (.bool false) (.slice none 0 0) (.int .i64 (ps : Int))
  obtain ⟨k0, k1, k2, k3, k4, k5, k6, k7, -⟩ := cells8x hp
  have HFX := Lib.hid (Fr2.after HG1.out (HF2.out.trans (hf.mono (fun _ h => .inl h))) (fun j hj => by have := HE0.out; rcases hj with h | h <;> omega))
  refine bodyPost_ret (v := .agg #[.int .i64 1, .string ⟨#[]⟩, .string ⟨#[]⟩, .bool s, .slice p' n' c', .bool false, .slice none 0 0, .int .i64 (ps : Int)]) (by simp [results, Tryz.results49, go_sem, k0, k1, k2, k3, k4, k5, k6, k7]) rfl (HX.out _ s p' n' c' HFX.out (int_same hi'.out (HF2.out.trans (hf.mono (fun _ h => .inl h))) (fun h0 a ha hj => by obtain ⟨a', ha', hb'⟩ := HFR.out h0; rw [ha] at ha'; injection ha' with ha'; subst ha'; have := HGW.out.size; have := HSW.out; rcases hj with h | h <;> omega)) (fun h0 => by obtain ⟨a', ha', hb'⟩ := HFR.out h0; exact ⟨a', ha', Nat.le_trans HGW.out.size hb'⟩))

set_option maxRecDepth 100000 in
set_option maxHeartbeats 8000000 in
theorem with7 (T : List Tok) (p : Option Addr) (c : Nat) (w : World) (hT : T.length ≤ 150000) (h0 : 0 < T.length) (h1 : 1 < T.length) (ht : TAt w p T) :
    Calls Tryz.prog 49 #[.int .i64 7, .slice p T.length c] w (ExPost0 (nodeE 7 (tkT T) []) w) := by
  obtain ⟨g, off, rfl, hgl, t0, t1, t2, t3⟩ := tok_cells ht (i := 0) h0
  rw [Nat.zero_mul, Nat.add_zero] at t0 t1 t2 t3
  obtain ⟨g1, off1, hp1, -, -, -, u2, -⟩ := tok_cells ht (i := 1) h1
  injection hp1 with hp1; injection hp1 with hp1 hp2; subst hp1 hp2
  rw [Nat.one_mul] at u2
  unfold strV at u2
  have HU2 := Lib.hid u2
  clear u2
  have HX : Hid (∀ w', w.grownBy w' none → ExPost0 (nodeE 7 (tkT T) []) w (.returned (.agg #[.int .i64 22, .string ⟨(tkT T 1).text.toArray⟩, .string ⟨#[]⟩, .bool false, .slice none 0 0, .bool false, .slice none 0 0, .int .i64 ((tkT T 0).pos : Int)])) w') := Lib.hid (fun w' hg => ⟨hg, _, rfl, ex_plain (by decide), rfl⟩)
  generalize (⟨(tkT T 1).text.toArray⟩ : ByteArray) = y1 at *
  have HTT := Lib.hid ht
  obtain ⟨m, hm⟩ : ∃ m, T.length = m := ⟨_, rfl⟩
  have HM := Lib.hid hm
  have h0' := h0
  rw [hm] at h0' ⊢
  have z0 : decide (0 < m) = true := decide_eq_true h0'
  have z0' : decide ((0 : Int) < (m : Int)) = true := decide_eq_true (by omega)
  have h1' := h1
  rw [hm] at h1'
  have z1 : decide (1 < m) = true := decide_eq_true h1'
  have z1' : decide ((1 : Int) < (m : Int)) = true := decide_eq_true (by omega)
  have HGL : Hid (g < w.heap.size) := Lib.hid hgl
  unfold strV at t1 t2
  generalize (⟨(tkT T 0).lead.toArray⟩ : ByteArray) = le at *
  generalize (⟨(tkT T 0).text.toArray⟩ : ByteArray) = te at *
  generalize (tkT T 0).kind = k at *
  generalize (tkT T 0).pos = ps at *
  clear ht hm hT h0 h1
  go_enter Tryz.func49, Tryz.ntmps49
  go_wp2_with fail
  obtain ⟨W, b0, b1, b2, hW, e0, e1, e2, hB0, hB1, hB2, hgW, h01, h12⟩ := three w (.cells #[.int .i64 0, .string ⟨#[]⟩, .string ⟨#[]⟩, .bool false, .slice none 0 0, .bool false, .slice none 0 0, .int .i64 0] 30) (.cells #[.int .i64 (k : Int), .string le, .string te, .int .i64 (ps : Int)] 98) (.cells #[.int .i64 0, .string ⟨#[]⟩, .string ⟨#[]⟩, .bool false, .slice none 0 0, .bool false, .slice none 0 0, .int .i64 (ps : Int)] 30)
  have HB0 := Lib.hid hB0; have HB1 := Lib.hid hB1; have HB2 := Lib.hid hB2; have HGW := Lib.hid hgW
  have HE0 := Lib.hid e0
  clear hB0 hB1 hgW
  try rw [← hW]
  try rw [e2]
  try rw [e1]
  try rw [e0]
  have hu2 := HGW.out.cell HU2.out (by simp)
  have hgl2 : g < b0 := by omega
  clear e0 e1 e2 hW hgl t0 t1 t2 t3
  obtain ⟨c0, c1, c2, c3, c4, c5, c6, c7, c8⟩ := cells8x hB2
  go_region
  all_goals
    have HF2 : Hid (Fr2 (fun k => k = b0 ∨ k = b2) W ((W.setCell ⟨b2, 0, none⟩ (.int .i64 22)).setCell ⟨b2, 1, none⟩ (.string y1)).drew) := Lib.hid (fr2_drew (((Fr2.refl _ _).setCell (.inr rfl) _).setCell (.inr rfl) _))
    have hs2 := set_cells (i := 1) (u := .string y1) (set_cells (i := 0) (u := .int .i64 22) HB2.out)
    have hs0 := ((((Fr2.refl (fun k => k = b2) W).setCell (g := b2) (j := 0) rfl (.int .i64 22)).setCell (g := b2) (j := 1) rfl (.string y1)).keep HB0.out (by omega))
    have HS2 : Hid (((W.setCell ⟨b2, 0, none⟩ (.int .i64 22)).setCell ⟨b2, 1, none⟩ (.string y1)).drew.heap[b2]? = some (.cells #[.int .i64 22, .string y1, .string ⟨#[]⟩, .bool false, .slice none 0 0, .bool false, .slice none 0 0, .int .i64 (ps : Int)] 30 (0, 0))) := Lib.hid hs2
    have HS0 : Hid (((W.setCell ⟨b2, 0, none⟩ (.int .i64 22)).setCell ⟨b2, 1, none⟩ (.string y1)).drew.heap[b0]? = some (.cells #[.int .i64 0, .string ⟨#[]⟩, .string ⟨#[]⟩, .bool false, .slice none 0 0, .bool false, .slice none 0 0, .int .i64 0] 30 (0, 0))) := Lib.hid hs0
    clear hs2 hs0 hu2 c0 c1 c2 c3 c4 c5 c6 c7 c8 hB2
    generalize ((W.setCell ⟨b2, 0, none⟩ (.int .i64 22)).setCell ⟨b2, 1, none⟩ (.string y1)).drew = W2 at *
    obtain ⟨c0, c1, c2, c3, c4, c5, c6, c7, c8⟩ := cells8x HS2.out
    obtain ⟨a0, a1, a2, a3, a4, a5, a6, a7, a8⟩ := cells8x HS0.out
    go_wp2_with fail
    obtain ⟨hp, hf⟩ := put8c HS0.out (.int .i64 22) (.string y1) (.string ⟨#[]⟩) (.bool false) (.slice none 0 0) (.bool false) (.slice none 0 0) (.int .i64 (ps : Int))
    obtain ⟨k0, k1, k2, k3, k4, k5, k6, k7, -⟩ := cells8x hp
    have HFX := Lib.hid (Fr2.after HGW.out (HF2.out.trans (hf.mono (fun _ h => .inl h))) (fun j hj => by have := HE0.out; rcases hj with h | h <;> omega))
    refine bodyPost_ret (v := .agg #[.int .i64 22, .string y1, .string ⟨#[]⟩, .bool false, .slice none 0 0, .bool false, .slice none 0 0, .int .i64 (ps : Int)]) (by simp [results, Tryz.results49, go_sem, k0, k1, k2, k3, k4, k5, k6, k7]) rfl (HX.out _ HFX.out)
end Go.Proofs.YtddccnpohpaofaaGreatDoor
