/- A program without its clauses. -/
import Derived.Deep.RegionLaw
import Derived.Test.YtoahgeleenpnjaaGreatDoorE41
set_option linter.unusedVariables false
set_option linter.unusedSimpArgs false
namespace Go.Proofs.YtoahgeleenpnjaaGreatDoor
open Go.RowKit

/-- What erase asks of a definition. -/
structure DBd (d : Dx) : Prop where
  size : sizE d.body ≤ 1000000
  small : allS d.body
  name : d.res.nm.length ≤ 1000000
  pars : d.ps.length ≤ 1000000
  names : ∀ f ∈ d.ps, f.nm.length ≤ 1000000
def ErsPost (F : Nat → Prop) (P : Px) (w : World) (e : Ending) (w' : World) : Prop := w.grownBy w' none ∧ ∃ q, e = .returned (.agg q.toArray) ∧ PrAt (fun k => F k ∨ w.heap.size ≤ k) w' (eraP P) q
theorem imp_cells {w : World} {pi : Option Addr} {l : List (List UInt8 × Nat)} (h : GAt 2 w pi (l.map impV)) {j : Nat} {x : List UInt8 × Nat} (hx : l[j]? = some x) : ∃ g off, pi = some ⟨g, off, none⟩ ∧ g < w.heap.size ∧ w.cell? ⟨g, off + j * 2, none⟩ = some (.string ⟨x.1.toArray⟩) ∧ w.cell? ⟨g, off + j * 2 + 1, none⟩ = some (.int .i64 (x.2 : Int)) := by
  have hq : (l.map impV)[j]? = some (impV x) := by rw [List.getElem?_map, hx]; rfl
  obtain ⟨g, off, rfl, hgl, hc⟩ := h.resolve_left (fun e => by rw [e] at hq; simp at hq)
  have hc := hc j _ hq
  have c0 := hc 0 _ rfl
  rw [Nat.add_zero] at c0
  exact ⟨g, off, rfl, hgl, c0, hc 1 _ rfl⟩

theorem ers_fin {F X : Nat → Prop} {P : Px} {w wr : World} {b0 b1 B n2 c2 n3 c3 : Nat} {p2 p3 : Option Addr} {rows : List (List Value)} {y0 y1 : Value} (hw : w.heap.size = b0) (h01 : b0 < b1) (h1B : b1 < B) (hG : w.grownBy wr none) (hB1 : wr.heap[b1]? = some (.cells #[y0, y1] 35 (0, 0)))
    (hOi : OwnG 2 99 wr B (.slice p2 n2 c2) (P.imps.map impV)) (hOd : OwnG 15 62 wr B (.slice p3 n3 c3) rows) (hLS : DsAt (KeepF F b0 B wr X) wr (P.defs.map eraD) rows) :
    ErsPost F P w (.returned (.agg #[.slice p2 n2 c2, .slice p3 n3 c3])) ((wr.setCell ⟨b1, 0, none⟩ (.slice p2 n2 c2)).setCell ⟨b1, 1, none⟩ (.slice p3 n3 c3)) := by
  obtain ⟨hni, gi, bi⟩ := hOi.rows
  obtain ⟨hnd, gd, bd⟩ := hOd.rows
  rw [List.length_map] at hni
  have hdl := Ds_len hLS
  have hf : Fr2 (fun k => k = b1) wr ((wr.setCell ⟨b1, 0, none⟩ (.slice p2 n2 c2)).setCell ⟨b1, 1, none⟩ (.slice p3 n3 c3)) := (set_fr wr b1 0 _).trans (set_fr _ b1 1 _)
  have hP : PrAt (fun k => (F k ∧ k < b0) ∨ B ≤ k) wr (eraP P) [.slice p2 n2 c2, .slice p3 n3 c3] := ⟨p2, c2, p3, c3, rows, by rw [hni, hnd, hdl]; rfl, gi, gd, Ds_mono (fun k hk => hk.imp id (fun h => h.1)) hLS, fun h0 => by
    obtain ⟨a, ha, h1⟩ := bi (fun e => h0 (List.map_eq_nil_iff.1 e)); exact ⟨a, ha, .inr h1.1⟩, fun h0 => by
    obtain ⟨a, ha, h1⟩ := bd (fun e => h0 (by rw [e] at hdl; exact List.eq_nil_of_length_eq_zero hdl.symm)); exact ⟨a, ha, .inr h1.1⟩⟩
  refine ⟨Fr2.after hG hf (fun j hj => by have e : j = b1 := hj; omega), _, rfl, PrAt.mono (fun k hk => ?_) (PrAt.same hf (fun k hk e => ?_) hP)⟩
  · rcases hk with hk | hk
    · exact .inl hk.1
    · exact .inr (by omega)
  · have e : k = b1 := e
    rcases hk with hk | hk
    · have := hk.2; omega
    · omega

set_option maxRecDepth 100000 in
set_option maxHeartbeats 16000000 in
theorem Erase_c (F : Nat → Prop) (P : Px) (q : List Value) (w : World) (hx : PrAt F w P q) (hi : P.imps.length ≤ 1000000) (hin : ∀ x ∈ P.imps, x.1.length ≤ 1000000) (hd : P.defs.length ≤ 1000000) (hdb : ∀ d ∈ P.defs, DBd d) :
    Calls Tryz.prog 12 #[.agg q.toArray] w (ErsPost F P w) := by
  obtain ⟨pi, ci, pd, cd, drow, rfl, hgi, hgd, hds, -, -⟩ := hx
  have HGI := Lib.hid hgi; have HGD := Lib.hid hgd; have HDS := Lib.hid (Ds_bound hds); have HIN := Lib.hid hin; have HDB := Lib.hid hdb
  have HCL := Lib.hid (fun (l : List UInt8) (W : World) (h : l.length ≤ 1000000) => Clone_c ⟨l.toArray⟩ W (by rw [← list_len]; show l.length ≤ _; omega))
  obtain ⟨n, hn⟩ : ∃ n, P.imps.length = n := ⟨_, rfl⟩
  obtain ⟨m, hm⟩ : ∃ m, P.defs.length = m := ⟨_, rfl⟩
  have HN := Lib.hid hn; have HM := Lib.hid hm
  rw [hn] at hi ⊢
  rw [hm] at hd ⊢
  clear hgi hgd hds hin hdb hn hm
  go_enter Tryz.func12, Tryz.ntmps12
  go_wp2_with fail
  obtain ⟨W, b0, b1, b2, hW, e0, e1, e2, hB0, hB1, hB2, hgW, h01, h12⟩ := three w (.cells #[.slice pi n ci, .slice pd m cd] 35) (.cells #[.slice none 0 0, .slice none 0 0] 35) (.cells #[.slice none 0 0, .slice none 0 0] 35)
  have hsW : W.heap.size = b2 + 1 := by rw [hW]; simp; omega
  have HB0 := Lib.hid hB0; have HB1 := Lib.hid hB1; have HB2 := Lib.hid hB2; have HGW := Lib.hid hgW; have HE0 := Lib.hid e0
  try rw [← hW]
  try rw [e2]
  try rw [e1]
  try rw [e0]
  obtain ⟨B, hB⟩ : ∃ B, W.heap.size = B := ⟨_, rfl⟩
  have HBS := Lib.hid hB
  have HBB : Hid (b0 < b1 ∧ b1 < b2 ∧ b2 < B ∧ w.heap.size = b0) := Lib.hid (by omega)
  clear hB0 hB1 hB2 hgW e0 e1 e2 hW hsW hB
  go_loopg [11] n (fun gk iv wr => ∃ (j : Nat) (p2 : Option Addr) (n2 c2 : Nat), j ≤ n ∧ iv = .int .i64 (j : Int) ∧ n - j ≤ gk ∧ gk ≤ n ∧ Hid (wr.heap[b2]? = some (.cells #[.slice p2 n2 c2, .slice none 0 0] 35 (0, 0))) ∧ Hid (OwnG 2 99 wr B (.slice p2 n2 c2) ((P.imps.take j).map impV)) ∧ Hid (Fr2 (fun k => k = b2 ∨ B ≤ k) W wr))
  case atStart => exact ⟨0, none, 0, 0, Nat.zero_le _, rfl, by omega, Nat.le_refl _, HB2, Lib.hid (OwnG.nil _ _ _ _), Lib.hid (Fr2.refl _ _)⟩
  case round =>
    obtain ⟨j, p2, n2, c2, hj, rfl, hgk, hgm, HB2r, HO, HF⟩ := hrel
    have HGr : Hid (w.grownBy wr none) := Lib.hid (Fr2.after HGW.out HF.out (fun k hk => by have := HBB.out; rcases hk with rfl | hk <;> omega))
    have HB0r := Lib.hid (HF.out.keep HB0.out (fun e => by have := HBB.out; rcases e with e | e <;> omega)); have HB1r := Lib.hid (HF.out.keep HB1.out (fun e => by have := HBB.out; rcases e with e | e <;> omega))
    have HBr : Hid (B ≤ wr.heap.size) := Lib.hid (by have := HF.out.size; have := HBS.out; omega)
    by_cases hlj : j < n
    · obtain ⟨x, hx⟩ : ∃ x, P.imps[j]? = some x := ⟨P.imps[j]'(by rw [HN.out]; exact hlj), List.getElem?_eq_getElem _⟩
      obtain ⟨g, off, rfl, hgl, c0, c1⟩ := imp_cells HGI.out hx
      have HTK : Hid (P.imps.take (j + 1) = P.imps.take j ++ [x]) := Lib.hid (by rw [List.take_add_one, hx]; rfl)
      have c0 := HGr.out.cell c0 (by simp); have c1 := HGr.out.cell c1 (by simp)
      have hgl : g < wr.heap.size := Nat.lt_of_lt_of_le hgl HGr.out.size
      have hCF := Lib.hid (fun W => HCL.out x.1 W (HIN.out x (List.mem_of_getElem? hx)))
      obtain ⟨yf, hyf⟩ : ∃ y : ByteArray, (⟨x.1.toArray⟩ : ByteArray) = y := ⟨_, rfl⟩
      obtain ⟨xp, hxp⟩ : ∃ xp, x.2 = xp := ⟨_, rfl⟩
      have HIV : Hid (impV x = [.string yf, .int .i64 (xp : Int)]) := Lib.hid (by unfold impV strV; rw [hyf, hxp])
      rw [hyf] at c0 hCF
      rw [hxp] at c1
      obtain ⟨LS, hLS⟩ : ∃ LS, (P.imps.take j).map impV = LS := ⟨_, rfl⟩
      have HLS := Lib.hid hLS
      have hO := HO.out
      rw [hLS] at hO
      obtain ⟨p2', c2', hve, -⟩ := hO.is
      have hn2 : n2 = LS.length := by injection hve
      have HN2 := Lib.hid hn2
      have HNB : Hid (LS.length ≤ 1000000) := Lib.hid (by rw [← hLS, List.length_map, List.length_take, HN.out]; omega)
      have HO2 := Lib.hid hO
      have i1 : (0 : Int) ≤ (j : Int) := by omega
      have i2 : (j : Int) < (n : Int) := by omega
      have i3 : decide (j < n) = true := decide_eq_true hlj
      have i4 : decide ((j : Int) < (n : Int)) = true := decide_eq_true i2
      obtain ⟨d0, d1, d2⟩ := cells2 HB2r.out
      have hb2 : b2 < wr.heap.size := hlt HB2r.out
      clear hx hLS hO HO hyf hve hn2 hxp
      go_wp2_with fail
      obtain ⟨WX, b5, hWX, e5, hB5, hgX⟩ := three0 wr (.cells #[.string yf, .int .i64 (xp : Int)] 99)
      have HB5 := Lib.hid hB5; have HGX := Lib.hid hgX; have HE5 := Lib.hid e5
      have HB2X := Lib.hid (bx hgX HB2r.out)
      have HOX := Lib.hid (HO2.out.kept hgX)
      have HBX : Hid (B ≤ WX.heap.size) := Lib.hid (Nat.le_trans HBr.out hgX.size)
      clear hB5 hgX c0 c1 d0 d1 d2 hb2 hgl
      try rw [← hWX]
      try rw [e5]
      clear e5 hWX
      obtain ⟨r0, r1, r2⟩ := cells2 HB5.out
      obtain ⟨d0, d1, d2⟩ := cells2 HB2X.out
      have hb5 : b5 < WX.heap.size := hlt HB5.out
      have hb2 : b2 < WX.heap.size := hlt HB2X.out
      go_region_law (first
        | (refine step_appGl (s := 2) (t := 32) (T := 99) (by decide) Tryz.underlying32 infoIm rfl (by omega) rfl _ _ rfl B LS [.string yf, .int .i64 (xp : Int)] rfl (fun u hu => by simp at hu; rcases hu with rfl | rfl <;> rfl) (.slice p2 n2 c2) rfl (OwnG.kept HO7.out (by repeat (first | with_reducible exact gb_refl _ _ | with_reducible refine gb_drew ?_ | with_reducible refine gb_drewN ?_ _ | with_reducible refine gb_alloc ?_ _))) w7.heap.size _ rfl (by exact HNEW.out) rfl HNB.out (by have := HS57.out; simp; omega) (w7.heap.size + 1) (by simp) ?_; intro g9 cap9 w9 hO9 hg9 hl9; have hb9 := (hg9.block b2 (by simp; omega) (fun e => by have := (OwnG.at HO7.out b2 e.symm).1; have := HBB.out; omega)).trans (show _ = _ from bx (show w7.grownBy _ none from (by repeat (first | with_reducible exact gb_refl _ _ | with_reducible refine gb_drew ?_ | with_reducible refine gb_drewN ?_ _ | with_reducible refine gb_alloc ?_ _))) HB27.out); obtain ⟨z0, z1, z2⟩ := cells2 hb9; have HB9 := Lib.hid hb9; have HO9 := Lib.hid hO9; have HG9' := Lib.hid hg9; have hb2 : b2 < w9.heap.size := hlt hb9; clear hb9 hO9 hg9 hl9)
        | (go_simp; go_at_call 34; refine (hCF.out _).mono ?_; rintro e w7 ⟨rfl, hg7⟩; have HG7 := Lib.hid (gb_trans (show WX.grownBy _ none from (by repeat (first | with_reducible exact gb_refl _ _ | with_reducible refine gb_drew ?_ | with_reducible refine gb_drewN ?_ _ | with_reducible refine gb_alloc ?_ _))) hg7); have HO7 := Lib.hid (HOX.out.kept HG7.out); have HB27 := Lib.hid (bx HG7.out HB2X.out); have HB57 := Lib.hid (bx HG7.out HB5.out); obtain ⟨r0, r1, r2⟩ := cells2 HB57.out; obtain ⟨d0, d1, d2⟩ := cells2 HB27.out; have hb5 : b5 < w7.heap.size := hlt HB57.out; have hb2 : b2 < w7.heap.size := hlt HB27.out; have HS57 : Hid (B ≤ w7.heap.size) := Lib.hid (Nat.le_trans HBX.out HG7.out.size); have HNEW := Lib.hid (heap_alloc_new w7 (.cells #[.string yf, .int .i64 (xp : Int)] 99)); clear hg7))
      all_goals
        have hga : w7.grownBy (w7.alloc (.cells #[.string yf, .int .i64 (xp : Int)] 99)) none := World.grownBy_alloc _ _ _
        have hfr9 : Fr2 (fun i => (Value.slice p2 n2 c2).ownBlock = some i) (w7.alloc (.cells #[.string yf, .int .i64 (xp : Int)] 99)) w9 := Fr2.of HG9'.out (fun i e => e)
        have HF10 : Hid (Fr2 (fun k => k = b2 ∨ B ≤ k) W (w9.setCell ⟨b2, 0, none⟩ (.slice (some ⟨g9, 0, none⟩) (LS.length + 1) cap9))) := Lib.hid ((((HF.out.trans (Fr2.none HGX.out)).trans (Fr2.none HG7.out)).trans (Fr2.none hga)).trans ((hfr9.mono (fun k hk => .inr (OwnG.at HO7.out k hk).1)).trans ((set_fr w9 b2 0 _).mono (fun k hk => .inl hk))))
        have HB10 : Hid ((w9.setCell ⟨b2, 0, none⟩ (.slice (some ⟨g9, 0, none⟩) (LS.length + 1) cap9)).heap[b2]? = some (.cells #[.slice (some ⟨g9, 0, none⟩) (LS.length + 1) cap9, .slice none 0 0] 35 (0, 0))) := Lib.hid (set_cells (i := 0) (u := .slice (some ⟨g9, 0, none⟩) (LS.length + 1) cap9) HB9.out)
        have HO10 : Hid (OwnG 2 99 (w9.setCell ⟨b2, 0, none⟩ (.slice (some ⟨g9, 0, none⟩) (LS.length + 1) cap9)) B (.slice (some ⟨g9, 0, none⟩) (LS.length + 1) cap9) ((P.imps.take (j + 1)).map impV)) := Lib.hid (by
          rw [HTK.out, List.map_append, HLS.out]
          have e : [x].map impV = [[.string yf, .int .i64 (xp : Int)]] := by rw [List.map_cons, List.map_nil, HIV.out]
          rw [e]
          exact HO9.out.keptS (set_fr w9 b2 0 _) (fun g hg e => by have e : g = b2 := e; have := HBB.out; omega))
        have hjb : n ≤ 1000000 := hi
        have hw9 : IntKind.i64.wrap ((j : Int) + 1) = ((j + 1 : Nat) : Int) := by rw [IntWalk.i64_in _ (by omega)]; omega
        clear hga hfr9 HO9 HB9 HG9' HNEW HO7 HB27 HB57 r0 r1 r2 d0 d1 d2 z0 z1 z2 hb5 hb2
        go_wp2_with fail
        go_roundg (n - (j + 1))
        case measure => omega
        case rel => exact ⟨j + 1, some ⟨g9, 0, none⟩, LS.length + 1, cap9, by omega, by first | rfl | go_num, Nat.le_refl _, by omega, HB10, HO10, HF10⟩
    · obtain rfl : j = n := by omega
      obtain ⟨d0, d1, d2⟩ := cells2 HB2r.out
      obtain ⟨r0, r1, r2⟩ := cells2 HB0r.out
      have hb0 : b0 < wr.heap.size := hlt HB0r.out
      have hb2 : b2 < wr.heap.size := hlt HB2r.out
      have HOI0 : Hid (OwnG 2 99 wr B (.slice p2 n2 c2) (P.imps.map impV)) := Lib.hid (by
        have := HO.out
        rw [List.take_of_length_le (by have := HN.out; omega)] at this; exact this)
      have HFI := HF
      clear HO HF
      go_wp2_with fail
      clear d0 d1 d2 r0 r1 r2 hb0 hb2
      go_loopg [30] m (fun gk iv wr => ∃ (j2 : Nat) (rows : List (List Value)) (p3 : Option Addr) (n3 c3 : Nat), j2 ≤ m ∧ iv = .int .i64 (j2 : Int) ∧ m - j2 ≤ gk ∧ gk ≤ m ∧ Hid (wr.heap[b2]? = some (.cells #[.slice p2 n2 c2, .slice p3 n3 c3] 35 (0, 0))) ∧ Hid (OwnG 2 99 wr B (.slice p2 n2 c2) (P.imps.map impV)) ∧ Hid (OwnG 15 62 wr B (.slice p3 n3 c3) rows) ∧ Hid (Sep (.slice p2 n2 c2) (.slice p3 n3 c3)) ∧ Hid (DsAt (KeepF F b0 B wr (Wr3 b2 (.slice p2 n2 c2) (.slice p3 n3 c3))) wr ((P.defs.take j2).map eraD) rows) ∧ Hid (Fr2 (fun k => k = b2 ∨ B ≤ k) W wr))
      case atStart => exact ⟨0, [], none, 0, 0, Nat.zero_le _, rfl, by omega, Nat.le_refl _, HB2r, HOI0, Lib.hid (OwnG.nil _ _ _ _), Lib.hid (fun k _ h => by cases h), Lib.hid (by simp [DsAt]), HFI⟩
      case round =>
        obtain ⟨j2, rows, p3, n3, c3, hj2, rfl, hgk2, hgm2, HB2q, HOI, HOD, HSP, HLD, HFQ⟩ := hrel
        have HGr2 : Hid (w.grownBy wr none) := Lib.hid (Fr2.after HGW.out HFQ.out (fun k hk => by have := HBB.out; rcases hk with rfl | hk <;> omega))
        have HB0q := Lib.hid (HFQ.out.keep HB0.out (fun e => by have := HBB.out; rcases e with e | e <;> omega)); have HB1q := Lib.hid (HFQ.out.keep HB1.out (fun e => by have := HBB.out; rcases e with e | e <;> omega))
        have HBq : Hid (B ≤ wr.heap.size) := Lib.hid (by have := HFQ.out.size; have := HBS.out; omega)
        by_cases hlm : j2 < m
        · obtain ⟨d, hd0⟩ : ∃ d, P.defs[j2]? = some d := ⟨P.defs[j2]'(by rw [HM.out]; exact hlm), List.getElem?_eq_getElem _⟩
          obtain ⟨qd, hqd, hDd⟩ := Ds_get HDS.out hd0
          have hDd0 := hDd
          obtain ⟨pp, np, cp, prow, pc, nc, cc, qb, rfl, -, hEb, -, -⟩ := hDd0
          obtain ⟨o9, p9, a9, b9, s9, y9, z9, z9', n9, c9, n9', c9', rfl⟩ := hEb.form
          simp only [List.cons_append, List.nil_append] at hDd hqd
          clear hEb
          obtain ⟨gd, offd, rfl, hgld, hcd⟩ := HGD.out.resolve_left (fun e => by rw [e] at hqd; simp at hqd)
          have hcd := hcd j2 _ hqd
          have e0 := HGr2.out.cell (hcd 0 _ rfl) (by simp)
          have e1 := HGr2.out.cell (hcd 1 _ rfl) (by simp)
          have e2 := HGr2.out.cell (hcd 2 _ rfl) (by simp)
          have e3 := HGr2.out.cell (hcd 3 _ rfl) (by simp)
          have e4 := HGr2.out.cell (hcd 4 _ rfl) (by simp)
          have e5 := HGr2.out.cell (hcd 5 _ rfl) (by simp)
          have e6 := HGr2.out.cell (hcd 6 _ rfl) (by simp)
          have e7 := HGr2.out.cell (hcd 7 _ rfl) (by simp)
          have e8 := HGr2.out.cell (hcd 8 _ rfl) (by simp)
          have e9 := HGr2.out.cell (hcd 9 _ rfl) (by simp)
          have e10 := HGr2.out.cell (hcd 10 _ rfl) (by simp)
          have e11 := HGr2.out.cell (hcd 11 _ rfl) (by simp)
          have e12 := HGr2.out.cell (hcd 12 _ rfl) (by simp)
          have e13 := HGr2.out.cell (hcd 13 _ rfl) (by simp)
          have e14 := HGr2.out.cell (hcd 14 _ rfl) (by simp)
          rw [Nat.add_zero] at e0
          obtain ⟨yn, hyn⟩ : ∃ y : ByteArray, (⟨d.res.nm.toArray⟩ : ByteArray) = y := ⟨_, rfl⟩
          unfold strV at e1 hDd
          rw [hyn] at e1 hDd
          have hgld : gd < wr.heap.size := Nat.lt_of_lt_of_le hgld HGr2.out.size
          have hbd := HDB.out d (List.mem_of_getElem? hd0)
          have HTK : Hid ((P.defs.take (j2 + 1)).map eraD = (P.defs.take j2).map eraD ++ [eraD d]) := Lib.hid (by rw [List.take_add_one, hd0, List.map_append]; rfl)
          have HER := Lib.hid (fun W (h : w.grownBy W none) => erase_c (fun k => F k ∧ k < w.heap.size) d _ W (hDd.kept h) hbd.size hbd.small hbd.name hbd.pars hbd.names)
          have HRL : Hid (rows.length ≤ 1000000) := Lib.hid (by have h1 := Ds_len HLD.out; rw [List.length_map, List.length_take] at h1; omega)
          obtain ⟨p3', c3', hve, -⟩ := HOD.out.is
          have hn3 : n3 = rows.length := by injection hve
          have HN3 := Lib.hid hn3
          have i1 : (0 : Int) ≤ (j2 : Int) := by omega
          have i2 : (j2 : Int) < (m : Int) := by omega
          have i3 : decide (j2 < m) = true := decide_eq_true hlm
          have i4 : decide ((j2 : Int) < (m : Int)) = true := decide_eq_true i2
          clear hd0 hqd hDd hcd hbd hve hn3 hyn
          go_wp2_with fail
          obtain ⟨WX, b7, hWX, eX, hB7, hgX⟩ := three0 wr (.cells #[.bool d.pub, .string yn, .slice pp np cp, .int .i64 (d.res.base : Int), .slice pc nc cc, .int .i64 o9, .string a9, .string b9, .bool s9, .slice z9 n9 c9, .bool y9, .slice z9' n9' c9', .int .i64 p9, .int .i64 (d.res.ps : Int), .int .i64 d.res.bare] 62)
          have HB7 := Lib.hid hB7; have HGX := Lib.hid hgX; have HE7 := Lib.hid eX
          have HB2X := Lib.hid (bx hgX HB2q.out)
          have HODX := Lib.hid (HOD.out.kept hgX)
          have HBX : Hid (B ≤ WX.heap.size) := Lib.hid (Nat.le_trans HBq.out hgX.size)
          clear hB7 hgX e0 e1 e2 e3 e4 e5 e6 e7 e8 e9 e10 e11 e12 e13 e14 hgld
          try rw [← hWX]
          try rw [eX]
          clear eX hWX
          obtain ⟨x0, x1, x2, x3, x4, x5, x6, x7, x8, x9, x10, x11, x12, x13, x14, x15⟩ := cells15c HB7.out
          obtain ⟨d0, d1, d2⟩ := cells2 HB2X.out
          have hb7 : b7 < WX.heap.size := hlt HB7.out
          have hb2 : b2 < WX.heap.size := hlt HB2X.out
          go_region_law (first
            | (refine step_appGl (s := 15) (t := 33) (T := 62) (by decide) Tryz.underlying33 infoDf rfl (by omega) rfl _ _ rfl B rows [q0, q1, q2, q3, q4, q5, q6, q7, q8, q9, q10, q11, q12, q13, q14] rfl HQ1.out (.slice p3 n3 c3) rfl (OwnG.kept HO7.out (by repeat (first | with_reducible exact gb_refl _ _ | with_reducible refine gb_drew ?_ | with_reducible refine gb_drewN ?_ _ | with_reducible refine gb_alloc ?_ _))) w7.heap.size _ rfl (by exact HNEW.out) rfl HRL.out (by have := HS57.out; simp; omega) (w7.heap.size + 1) (by simp) ?_; intro g9 cap9 w9 hO9 hg9 hl9; have hb9 := (hg9.block b2 (by simp; omega) (fun e => by have := (OwnG.at HO7.out b2 e.symm).1; have := HBB.out; omega)).trans (show _ = _ from bx (show w7.grownBy _ none from (by repeat (first | with_reducible exact gb_refl _ _ | with_reducible refine gb_drew ?_ | with_reducible refine gb_drewN ?_ _ | with_reducible refine gb_alloc ?_ _))) HB27.out); obtain ⟨y0, y1, y2⟩ := cells2 hb9; have HB9 := Lib.hid hb9; have HO9 := Lib.hid hO9; have HG9' := Lib.hid hg9; have HL9 := Lib.hid hl9; have hb2 : b2 < w9.heap.size := hlt hb9; clear hb9 hO9 hg9 hl9)
            | (go_simp; go_at_call 35; refine (HER.out _ (gb_trans HGr2.out (gb_trans HGX.out (show WX.grownBy _ none from (by repeat (first | with_reducible exact gb_refl _ _ | with_reducible refine gb_drew ?_ | with_reducible refine gb_drewN ?_ _ | with_reducible refine gb_alloc ?_ _)))))).mono ?_; rintro e w7 ⟨hg7, q, rfl, hq⟩; obtain ⟨-, hq1, q0, q1, q2, q3, q4, q5, q6, q7, q8, q9, q10, q11, q12, q13, q14, rfl⟩ := hq.fift; have HQ1 := Lib.hid hq1; have HQ := Lib.hid hq; have HG7 := Lib.hid (gb_trans (gb_trans HGX.out (show WX.grownBy _ none from (by repeat (first | with_reducible exact gb_refl _ _ | with_reducible refine gb_drew ?_ | with_reducible refine gb_drewN ?_ _ | with_reducible refine gb_alloc ?_ _)))) hg7); have HO7 := Lib.hid (HOD.out.kept HG7.out); have HB27 := Lib.hid (bx HG7.out HB2q.out); obtain ⟨d0, d1, d2⟩ := cells2 HB27.out; have hb2 : b2 < w7.heap.size := hlt HB27.out; have HS57 : Hid (B ≤ w7.heap.size) := Lib.hid (Nat.le_trans HBq.out HG7.out.size); have HNEW := Lib.hid (heap_alloc_new w7 (.cells #[q0, q1, q2, q3, q4, q5, q6, q7, q8, q9, q10, q11, q12, q13, q14] 62)); clear hg7 hq hq1))
          all_goals
            have hga : w7.grownBy (w7.alloc (.cells #[q0, q1, q2, q3, q4, q5, q6, q7, q8, q9, q10, q11, q12, q13, q14] 62)) none := World.grownBy_alloc _ _ _
            have hfr9 : Fr2 (fun i => (Value.slice p3 n3 c3).ownBlock = some i) (w7.alloc (.cells #[q0, q1, q2, q3, q4, q5, q6, q7, q8, q9, q10, q11, q12, q13, q14] 62)) w9 := Fr2.of HG9'.out (fun i e => e)
            have HLS10 : Hid (DsAt (KeepF F b0 B (w9.setCell ⟨b2, 1, none⟩ (.slice (some ⟨g9, 0, none⟩) (rows.length + 1) cap9)) (Wr3 b2 (.slice p2 n2 c2) (.slice (some ⟨g9, 0, none⟩) (rows.length + 1) cap9))) (w9.setCell ⟨b2, 1, none⟩ (.slice (some ⟨g9, 0, none⟩) (rows.length + 1) cap9)) ((P.defs.take (j2 + 1)).map eraD) (rows ++ [[q0, q1, q2, q3, q4, q5, q6, q7, q8, q9, q10, q11, q12, q13, q14]])) := Lib.hid (by
              rw [HTK.out]
              exact push_defF (w7 := w7) (wa := w7.alloc (.cells #[q0, q1, q2, q3, q4, q5, q6, q7, q8, q9, q10, q11, q12, q13, q14] 62)) (by have := HBB.out; omega) (by have := HBB.out; omega) HBq.out (by have := HBB.out; omega) (hlt HB2q.out) HOI.out HOD.out HLD.out HG7.out (DAt.mono (fun k hk => hk.imp (fun h => ⟨h.1, by have := HBB.out; have := h.2; omega⟩) (fun h => Nat.le_trans HGX.out.size h)) HQ.out) hga (by simp) HG9'.out HL9.out)
            have HB10 : Hid ((w9.setCell ⟨b2, 1, none⟩ (.slice (some ⟨g9, 0, none⟩) (rows.length + 1) cap9)).heap[b2]? = some (.cells #[.slice p2 n2 c2, (.slice (some ⟨g9, 0, none⟩) (rows.length + 1) cap9)] 35 (0, 0))) := Lib.hid (set_cells (i := 1) (u := (.slice (some ⟨g9, 0, none⟩) (rows.length + 1) cap9)) HB9.out)
            have HO10 : Hid (OwnG 15 62 (w9.setCell ⟨b2, 1, none⟩ (.slice (some ⟨g9, 0, none⟩) (rows.length + 1) cap9)) B (.slice (some ⟨g9, 0, none⟩) (rows.length + 1) cap9) (rows ++ [[q0, q1, q2, q3, q4, q5, q6, q7, q8, q9, q10, q11, q12, q13, q14]])) := Lib.hid (HO9.out.keptS (set_fr w9 b2 1 _) (fun g hg e => by have e : g = b2 := e; have := HBB.out; omega))
            have HI10 : Hid (OwnG 2 99 (w9.setCell ⟨b2, 1, none⟩ (.slice (some ⟨g9, 0, none⟩) (rows.length + 1) cap9)) B (.slice p2 n2 c2) (P.imps.map impV)) := Lib.hid ((OwnG.keptR (OwnG.kept HOI.out (gb_trans HG7.out hga)) HG9'.out (fun k h1 h2 => HSP.out k h1 h2)).keptS (set_fr w9 b2 1 _) (fun g hg e => by have e : g = b2 := e; have := HBB.out; omega))
            have HSP10 : Hid (Sep (.slice p2 n2 c2) (.slice (some ⟨g9, 0, none⟩) (rows.length + 1) cap9)) := Lib.hid (Sep.symm (sep_new (Sep.symm HSP.out) (fun k e => by have h1 := (OwnG.at HOI.out k e).2; have h2 := HG7.out.size; omega) HL9.out))
            have HF10 : Hid (Fr2 (fun k => k = b2 ∨ B ≤ k) W (w9.setCell ⟨b2, 1, none⟩ (.slice (some ⟨g9, 0, none⟩) (rows.length + 1) cap9))) := Lib.hid (((HFQ.out.trans (Fr2.none HG7.out)).trans (Fr2.none hga)).trans ((hfr9.mono (fun k hk => .inr (OwnG.at HO7.out k hk).1)).trans ((set_fr w9 b2 1 _).mono (fun k hk => .inl hk))))
            have hjb : m ≤ 1000000 := hd
            have hw9 : IntKind.i64.wrap ((j2 : Int) + 1) = ((j2 + 1 : Nat) : Int) := by rw [IntWalk.i64_in _ (by omega)]; omega
            clear hga hfr9 HO9 HB9 HG9' HL9 HNEW HQ HQ1 HO7 HB27 x0 x1 x2 x3 x4 x5 x6 x7 x8 x9 x10 x11 x12 x13 x14 x15 d0 d1 d2 y0 y1 y2 hb7 hb2 HLD HOI HOD HFQ
            go_wp2_with fail
            go_roundg (m - (j2 + 1))
            case measure => omega
            case rel => exact ⟨j2 + 1, rows ++ [[q0, q1, q2, q3, q4, q5, q6, q7, q8, q9, q10, q11, q12, q13, q14]], some ⟨g9, 0, none⟩, rows.length + 1, cap9, by omega, by first | rfl | go_num, Nat.le_refl _, by omega, HB10, HI10, HO10, HSP10, HLS10, HF10⟩
        · obtain rfl : j2 = m := by omega
          have hld := HLD.out
          rw [List.take_of_length_le (by have := HM.out; omega)] at hld
          obtain ⟨d0, d1, d2⟩ := cells2 HB2q.out
          obtain ⟨r0, r1, r2⟩ := cells2 HB1q.out
          have hb1 : b1 < wr.heap.size := hlt HB1q.out
          have hb2 : b2 < wr.heap.size := hlt HB2q.out
          have HP := Lib.hid (ers_fin (P := P) HBB.out.2.2.2 HBB.out.1 (by have := HBB.out; omega) HGr2.out HB1q.out HOI.out HOD.out hld)
          clear hld
          go_wp2_with fail
          obtain ⟨k0, k1, -⟩ := cells2 (show ((wr.setCell ⟨b1, 0, none⟩ (.slice p2 n2 c2)).setCell ⟨b1, 1, none⟩ (.slice p3 n3 c3)).heap[b1]? = some (Obj.cells #[.slice p2 n2 c2, .slice p3 n3 c3] 35 (0, 0)) from set_cells (i := 1) (u := .slice p3 n3 c3) (set_cells (i := 0) (u := .slice p2 n2 c2) HB1q.out))
          refine bodyPost_ret (v := .agg #[.slice p2 n2 c2, .slice p3 n3 c3]) (by simp [results, Tryz.results12, go_sem, k0, k1]) rfl HP.out
end Go.Proofs.YtoahgeleenpnjaaGreatDoor
