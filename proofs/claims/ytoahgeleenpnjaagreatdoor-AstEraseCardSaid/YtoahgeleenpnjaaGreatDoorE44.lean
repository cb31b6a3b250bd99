/- A program, read out of a tree's nodes. -/
import Derived.Test.YtoahgeleenpnjaaGreatDoorE24
set_option linter.unusedVariables false
set_option linter.unusedSimpArgs false
namespace Go.Proofs.YtoahgeleenpnjaaGreatDoor
open Go.RowKit

theorem prg_fin {w W9 wr : World} {b2 b3 ni ci nd cd : Nat} {pi pd : Option Addr} {P : Px} {rows : List (List Value)} {x0 x1 : Value} {X : Nat → Prop} (h23 : b2 < b3) (hw : w.heap.size ≤ b2) (h9 : b3 < W9.heap.size) (hGr : w.grownBy wr none) (hB2 : wr.heap[b2]? = some (.cells #[x0, x1] 35 (0, 0)))
    (hOi : OwnG 2 99 wr W9.heap.size (.slice pi ni ci) (P.imps.map impV)) (hOd : OwnG 15 62 wr W9.heap.size (.slice pd nd cd) rows) (hLS : DsAt (fun k => b3 + 1 ≤ k ∧ k < wr.heap.size ∧ ¬ X k) wr P.defs rows) :
    PrgPost P w (.returned (.agg #[.slice pi ni ci, .slice pd nd cd])) ((wr.setCell ⟨b2, 0, none⟩ (.slice pi ni ci)).setCell ⟨b2, 1, none⟩ (.slice pd nd cd)) := by
  obtain ⟨hni, gi, bi⟩ := hOi.rows
  obtain ⟨hnd, gd, bd⟩ := hOd.rows
  rw [List.length_map] at hni
  rw [Ds_len hLS] at hnd
  subst hni; subst hnd
  have hf : Fr2 (Self b2) wr ((wr.setCell ⟨b2, 0, none⟩ (.slice pi P.imps.length ci)).setCell ⟨b2, 1, none⟩ (.slice pd P.defs.length cd)) := ((Fr2.refl _ _).setCell (mine b2) _).setCell (mine b2) _
  have hP : PrAt (fun k => b3 + 1 ≤ k) wr P [.slice pi P.imps.length ci, .slice pd P.defs.length cd] := ⟨pi, ci, pd, cd, rows, rfl, gi, gd, Ds_mono (fun k hk => hk.1) hLS, fun h0 => by
    obtain ⟨a, ha, h1⟩ := bi (fun e => h0 (List.map_eq_nil_iff.1 e)); exact ⟨a, ha, by omega⟩, fun h0 => by
    obtain ⟨a, ha, h1⟩ := bd (fun e => h0 (by have := Ds_len hLS; rw [e] at this; exact List.eq_nil_of_length_eq_zero this.symm)); exact ⟨a, ha, by omega⟩⟩
  exact ⟨Fr2.after hGr hf (fun j hj => by have e : j = b2 := hj; omega), _, rfl, PrAt.mono (fun k hk => by omega) (PrAt.same hf (fun k hk e => by have e : k = b2 := e; omega) hP)⟩

set_option maxRecDepth 100000 in
set_option maxHeartbeats 32000000 in
theorem program_c {T : List Tok} {N : List Nd} {K : Kf} (hT : T.length ≤ 150000) (hN : N.length ≤ 150000) {R kd : Nat} (hR : N.length - 1 = R) {ks : List Int} {l : List Tr} (hx : N[R]? = some ⟨(kd : Int), -1, ks⟩) (hkt : KT N R ks l) (hko : kOks l) (hlv : ∀ i ∈ lvTs l, i < T.length) (hsz : szRs l ≤ 150000) (hok : ∀ t ∈ l, OkP T t) (hbd : ∀ i, (tkT T i).pos ≤ 1000000 ∧ (tkT T i).text.length ≤ 1000000) (pt pn : Option Addr) (ct cn : Nat) (w : World) (ht : TAt w pt T) (hn : NodesAt w pn N K) (hla : LaidS w) :
    Calls Tryz.prog 26 #[.agg #[.slice pt T.length ct, .slice pn N.length cn]] w (PrgPost (progX T l) w) := by
  have hlm : l.length ≤ 150000 := Nat.le_trans (len_szRs l) hsz
  have hnr : R < N.length := (List.getElem?_eq_some_iff.1 hx).1
  have HKI := Lib.hid (fun (n : Nat) (x : Nd) W (hx : N[n]? = some x) h => kind_r (K := K) hN hx pt pn T.length ct cn W h)
  have HK0 := Lib.hid (fun W h => kids_r (K := K) hN hx pt pn T.length ct cn W h)
  have HRT := Lib.hid (fun W => Root_c pt pn T.length ct N.length cn (by omega) (by omega) W)
  rw [hR] at HRT
  have HOT := Lib.hid (fun (n : Nat) (k : Nat) (ks : List Int) (l : List Tr) W (hx : N[n]? = some ⟨(k : Int), -1, ks⟩) (hkt : KT N n ks l) (hko : kOks l) (hlv : ∀ i ∈ lvTs l, i < T.length) (hlm : l.length ≤ 150000) h1 h2 => aTokens_c (K := K) hT hN hx hkt hko hlv hlm pt pn ct cn W h1 h2)
  have HDF := Lib.hid (fun (n k : Nat) (ks : List Int) (l : List Tr) (W : World) (hs : ShD T (.nd 3 l)) (hx : N[n]? = some ⟨(k : Int), -1, ks⟩) (hkt : KT N n ks l) (hko : kOks l) (hlv : ∀ i ∈ lvTs l, i < T.length) (hsz : szRs l ≤ 150000) (h1 : TAt W pt T) (h2 : NodesAt W pn N K) (h3 : LaidS W) => (show Calls Tryz.prog 58 #[.agg #[.slice pt T.length ct, .slice pn N.length cn], .int .i64 (n : Int)] W (DefPost (defX T l) W) from by
    obtain ⟨o1, o2, ⟨i0, o3⟩, ⟨u, o4, o5, o6⟩, o7⟩ := shd_ok hs
    exact def_c (K := K) hT hN hx hkt hko hlv hsz o1 o2 hbd o3 o4 o5 o6 o7 pt pn ct cn W h1 h2 h3))
  have HX := Lib.hid hx; have HKT := Lib.hid hkt; have HKO := Lib.hid hko; have HLV := Lib.hid hlv; have HSZ := Lib.hid hsz; have HOK := Lib.hid hok
  have HT := Lib.hid ht; have HN := Lib.hid hn; have HLA := Lib.hid hla
  obtain ⟨mt, hmt⟩ : ∃ mt, T.length = mt := ⟨_, rfl⟩
  obtain ⟨mn, hmn⟩ : ∃ mn, N.length = mn := ⟨_, rfl⟩
  obtain ⟨M, hM⟩ : ∃ M, ks.length = M := ⟨_, rfl⟩
  have hML : M = l.length := by rw [← hM]; exact hkt.1
  have HML := Lib.hid hML
  have hMm : M ≤ 150000 := by omega
  rw [hmt, hmn] at HKI HK0 HRT HOT HDF ⊢
  have HK0 : Hid (∀ W, NodesAt W pn N K → Calls Tryz.prog 39 #[.agg #[.slice pt mt ct, .slice pn mn cn], .int .i64 (R : Int)] W (ValPost (.slice (K R).1 M (K R).2) W)) := Lib.hid (fun W h => by rw [← hM]; exact HK0.out W h)
  have HMT := Lib.hid hmt
  obtain ⟨pk, hpk⟩ : ∃ pk, (K R).1 = pk := ⟨_, rfl⟩
  have HPK1 := Lib.hid hpk
  rw [hpk] at HK0
  generalize (K R).2 = ck at *
  clear ht hn hla hx hkt hko hlv hsz hok hbd hT hN hmt hmn hM hML hlm hpk hnr hR
  go_enter Tryz.func26, Tryz.ntmps26
  go_wp2_with fail
  obtain ⟨W, b0, b2, b3, hW, e0, e1, e2, hB0, hB2, hB3, hgW, h02, h23⟩ := three w (.cells #[.slice pt mt ct, .slice pn mn cn] 83) (.cells #[.slice none 0 0, .slice none 0 0] 35) (.cells #[.slice none 0 0, .slice none 0 0] 35)
  have HB0 := Lib.hid hB0; have HB2 := Lib.hid hB2; have HB3 := Lib.hid hB3; have HGW := Lib.hid hgW; have HE0 := Lib.hid e0
  clear hB0 hB2 hB3 hgW
  try rw [← hW]
  try rw [e2]
  try rw [e1]
  try rw [e0]
  clear e0 e1 e2 hW
  have HNW := Lib.hid (HN.out.kept HGW.out)
  obtain ⟨a0, a1, a2⟩ := cells2 HB0.out
  have hb0 : b0 < W.heap.size := hlt HB0.out
  go_cut [11, 12, 13] (fun t11 t12 t13 wx => Hid (t11 = .slice pk M ck ∧ t12 = .int .i64 (M : Int) ∧ t13 = .int .i64 0 ∧ W.grownBy wx none))
  case first =>
    go_region_held3 (fun w' => w'.cell? ⟨b0, 0, none⟩ = some (.slice pt mt ct) ∧ w'.cell? ⟨b0, 1, none⟩ = some (.slice pn mn cn))
      (first | with_reducible exact ⟨a0, a1⟩ | go_keep)
      (first
        | (go_at_call 40; refine (HRT.out _).mono ?_; rintro e w5 ⟨rfl, hg5⟩; have HG5 := Lib.hid (gb_trans (show W.grownBy _ none from (by repeat (first | with_reducible exact gb_refl _ _ | with_reducible refine gb_drew ?_ | with_reducible refine gb_alloc ?_ _))) hg5); have s5 : W.heap.size ≤ w5.heap.size := HG5.out.size; obtain ⟨a0, a1, a2⟩ := cells2 (bx HG5.out HB0.out); clear hg5)
        | (go_at_call 39; refine (HK0.out _ (HNW.out.kept (gb_trans HG5.out (by repeat (first | with_reducible exact gb_refl _ _ | with_reducible refine gb_drew ?_ | with_reducible refine gb_alloc ?_ _))))).mono ?_; rintro e w6 ⟨rfl, hg6⟩; have HG6 := Lib.hid (gb_trans HG5.out (gb_trans (show w5.grownBy _ none from (by repeat (first | with_reducible exact gb_refl _ _ | with_reducible refine gb_drew ?_ | with_reducible refine gb_alloc ?_ _))) hg6)); have s6 : W.heap.size ≤ w6.heap.size := HG6.out.size; obtain ⟨a0, a1, a2⟩ := cells2 (bx HG6.out HB0.out); clear hg6))
    all_goals
      go_wp2_with fail
      go_meet
      exact Lib.hid ⟨rfl, rfl, rfl, HG6.out⟩
  case rest =>
    obtain ⟨rfl, rfl, rfl, hgc⟩ := hcut.out
    have HGC := Lib.hid hgc
    have HB09 := Lib.hid (bx hgc HB0.out); have HB29 := Lib.hid (bx hgc HB2.out); have HB39 := Lib.hid (bx hgc HB3.out)
    have HG9 := Lib.hid (gb_trans HGW.out hgc)
    have HS9 : Hid (b3 + 1 ≤ wc.heap.size) := Lib.hid (hlt HB39.out)
    clear hcut hgc a0 a1 a2 hb0
    have hww : w.heap.size ≤ b2 := by have := HE0.out; omega
    go_wp2_with fail
    go_loopw [13] (fun iv wr => ∃ (j : Nat) (rows : List (List Value)) (pi : Option Addr) (ni ci : Nat) (pd : Option Addr) (nd cd : Nat), j ≤ M ∧ iv = .int .i64 (j : Int) ∧ Hid (wr.heap[b3]? = some (.cells #[.slice pi ni ci, .slice pd nd cd] 35 (0, 0))) ∧ Hid (OwnG 2 99 wr wc.heap.size (.slice pi ni ci) ((progX T (l.take j)).imps.map impV)) ∧ Hid (OwnG 15 62 wr wc.heap.size (.slice pd nd cd) rows) ∧ Hid (Sep (.slice pi ni ci) (.slice pd nd cd)) ∧ Hid (DsAt (fun k => b3 + 1 ≤ k ∧ k < wr.heap.size ∧ ¬ Wr3 b3 (.slice pi ni ci) (.slice pd nd cd) k) wr (progX T (l.take j)).defs rows) ∧ Hid (Fr2 (fun k => k = b3) wc wr)) (fun iv _ => M - (intOf iv).toNat)
    case atStart => exact ⟨0, [], none, 0, 0, none, 0, 0, Nat.zero_le _, rfl, HB39, Lib.hid (by simp [progX]; exact OwnG.nil _ _ _ _), Lib.hid (OwnG.nil _ _ _ _), Lib.hid (fun k h => by cases h), Lib.hid (by simp [progX, DsAt]), Lib.hid (Fr2.refl _ _)⟩
    case round =>
      obtain ⟨j, rows, pi, ni, ci, pd, nd, cd, hj, rfl, HB3r, HOI, HOD, HSP, HLS, HF⟩ := hrel
      have HGr : Hid (w.grownBy wr none) := Lib.hid (Fr2.after HG9.out HF.out (fun i hi => by have e : i = b3 := hi; omega))
      have HB0r := Lib.hid (HF.out.keep HB09.out (by omega)); have HB2r := Lib.hid (HF.out.keep HB29.out (by omega))
      have HSr : Hid (b3 + 1 ≤ wr.heap.size) := Lib.hid (Nat.le_trans HS9.out HF.out.size)
      have HTr := Lib.hid (HT.out.kept HGr.out); have HNr := Lib.hid (HN.out.kept HGr.out); have HLr := Lib.hid (HLA.out.kept HGr.out)
      obtain ⟨a0, a1, a2⟩ := cells2 HB0r.out
      obtain ⟨d0, d1, d2⟩ := cells2 HB3r.out
      have hb0 : b0 < wr.heap.size := hlt HB0r.out
      have hb3 : b3 < wr.heap.size := hlt HB3r.out
      by_cases hlj : j < M
      · obtain ⟨uj, huj⟩ : ∃ u, l[j]? = some u := ⟨l[j]'(by have := HML.out; omega), List.getElem?_eq_getElem _⟩
        obtain ⟨k1, hk1, hta, hkn⟩ := HKT.out.2 j uj huj
        obtain ⟨gg, oo, hpp, hgg, ck0⟩ := kid_at (HN.out.2 R _ HX.out) hk1
        rw [HPK1.out] at hpp
        subst hpp
        have ck0 := HGr.out.cell ck0 (by simp)
        have hggr : gg < wr.heap.size := Nat.lt_of_lt_of_le hgg HGr.out.size
        have y1 : (0 : Int) ≤ (j : Int) := by omega
        have y2 : (j : Int) < (M : Int) := by omega
        have y3 : decide (j < M) = true := decide_eq_true hlj
        have y4 : decide ((j : Int) < (M : Int)) = true := decide_eq_true y2
        have HNX := Lib.hid (prog_next T huj)
        have HOKu := Lib.hid (HOK.out uj (List.mem_of_getElem? huj))
        obtain ⟨pi', ci', hvi, -⟩ := HOI.out.is
        have hvi2 : ni = ((progX T (l.take j)).imps.map impV).length := by injection hvi
        obtain ⟨pd', cd', hvd, -⟩ := HOD.out.is
        have hvd2 : nd = rows.length := by injection hvd
        have hlens := prog_len T (l.take j)
        have htk := List.length_take (i := j) (l := l)
        have HRI : Hid (((progX T (l.take j)).imps.map impV).length ≤ 1000000) := Lib.hid (by rw [List.length_map]; omega)
        have HRD : Hid (rows.length ≤ 1000000) := Lib.hid (by have h1 := Ds_len HLS.out; omega)
        clear hvi hvd hlens htk hgg
        by_cases h2 : kindT' uj = 2
        · cases uj with
          | lf i => simp [kindT'] at h2
          | nd k' l' =>
            have h2 : k' = 2 := h2
            subst h2
            obtain ⟨n', ks', hn', hnx, hkt'⟩ := hta.nd
            have hn' : k1 = n' := by omega
            subst hn'
            have hkd := kOks_get HKO.out huj
            simp only [kOk] at hkd
            have HK1 := Lib.hid (HKI.out k1 _ wr hnx HNr.out)
            obtain ⟨i9, n9, m9, rfl⟩ := HOKu.out.1 l' rfl
            have HOB := Lib.hid (fun W h1 h2 => HOT.out k1 2 ks' [.lf i9, .lf n9, .lf m9] W hnx hkt' hkd.2.2 (fun z hz => by rw [← HMT.out]; exact HLV.out z (lvTs_get huj z (by simp only [lvT]; exact hz))) (by simp) h1 h2)
            obtain ⟨tk, htk⟩ : ∃ tk, (tkT T n9).kind = tk := ⟨_, rfl⟩
            obtain ⟨tp, htp⟩ : ∃ tp, (tkT T n9).pos = tp := ⟨_, rfl⟩
            obtain ⟨yl, hyl⟩ : ∃ y : ByteArray, (⟨(tkT T n9).lead.toArray⟩ : ByteArray) = y := ⟨_, rfl⟩
            obtain ⟨yt, hyt⟩ : ∃ y : ByteArray, (⟨(tkT T n9).text.toArray⟩ : ByteArray) = y := ⟨_, rfl⟩
            have HTC : Hid (∀ (W : World) (p : Option Addr), TAt W p ((ownL [Tr.lf i9, Tr.lf n9, Tr.lf m9]).map (tkT T)) → ∃ g off, p = some ⟨g, off, none⟩ ∧ g < W.heap.size ∧ W.cell? ⟨g, off + 4, none⟩ = some (.int .i64 (tk : Int)) ∧ W.cell? ⟨g, off + 4 + 1, none⟩ = some (.string yl) ∧ W.cell? ⟨g, off + 4 + 2, none⟩ = some (.string yt) ∧ W.cell? ⟨g, off + 4 + 3, none⟩ = some (.int .i64 (tp : Int))) := Lib.hid (fun W p h => by
              obtain ⟨g2, off2, hp2, hl2, c0, c1, c2, c3⟩ := tok_cells h (i := 1) (by simp [ownL])
              have e0 : tkT ((ownL [Tr.lf i9, Tr.lf n9, Tr.lf m9]).map (tkT T)) 1 = tkT T n9 := by simp [tkT, ownL]
              rw [e0, Nat.one_mul] at c0 c1 c2 c3
              unfold strV at c1 c2
              rw [htk] at c0; rw [hyl] at c1; rw [hyt] at c2; rw [htp] at c3
              exact ⟨g2, off2, hp2, hl2, c0, c1, c2, c3⟩)
            have HOB : Hid (∀ W, TAt W pt T → NodesAt W pn N K → Calls Tryz.prog 57 #[.agg #[.slice pt mt ct, .slice pn mn cn], .int .i64 (k1 : Int)] W (fun e w' => W.grownBy w' none ∧ ∃ p c, e = .returned (.slice p 3 c) ∧ TAt w' p ((ownL [Tr.lf i9, Tr.lf n9, Tr.lf m9]).map (tkT T)))) := HOB
            have HIV : Hid ((progX T (l.take (j + 1))).imps.map impV = (progX T (l.take j)).imps.map impV ++ [[.string yt, .int .i64 (tp : Int)]] ∧ (progX T (l.take (j + 1))).defs = (progX T (l.take j)).defs) := Lib.hid ⟨by
              rw [HNX.out.1, if_pos (show kindT' (.nd 2 [Tr.lf i9, Tr.lf n9, Tr.lf m9]) = 2 from rfl), List.map_append]
              congr 1
              show [impV (impX T [Tr.lf i9, Tr.lf n9, Tr.lf m9])] = _
              have e1 : impX T [Tr.lf i9, Tr.lf n9, Tr.lf m9] = ((tkT T n9).text, (tkT T n9).pos) := rfl
              rw [e1]; unfold impV strV; rw [hyt, htp], by rw [HNX.out.2, if_neg (show ¬ kindT' (.nd 2 [Tr.lf i9, Tr.lf n9, Tr.lf m9]) = 3 by simp [kindT']), List.append_nil]⟩
            obtain ⟨LI, hLI⟩ : ∃ LI, (progX T (l.take j)).imps.map impV = LI := ⟨_, rfl⟩
            rw [hLI] at HIV HOI HRI hvi2
            have HNI := Lib.hid hvi2
            clear huj hk1 hta hkn hnx hkt' hkd htk htp hyl hyt HOKu HNX hvd2 hLI hvi2
            go_wp2_with fail
            refine HK1.out.mono ?_
            rintro e w6 ⟨rfl, hg6⟩
            have HG6 := Lib.hid hg6
            clear a0 a1 a2 d0 d1 d2
            obtain ⟨a0, a1, a2⟩ := cells2 (bx hg6 HB0r.out)
            have hb0 : b0 < w6.heap.size := Nat.lt_of_lt_of_le hb0 hg6.size
            clear hg6 HK1
            go_wp2_with fail
            refine (HOB.out _ (HTr.out.kept HG6.out) (HNr.out.kept HG6.out)).mono ?_
            rintro e w7 ⟨hg7, pr, cr, rfl, htr⟩
            obtain ⟨gr, offr, rfl, hgr, r0, r1, r2, r3⟩ := HTC.out _ _ htr
            have HG7 := Lib.hid (gb_trans HG6.out hg7)
            obtain ⟨d0, d1, d2⟩ := cells2 (bx HG7.out HB3r.out)
            have hb3 : b3 < w7.heap.size := hlt (bx HG7.out HB3r.out)
            have HO7 := Lib.hid (HOI.out.kept HG7.out)
            have HS7 : Hid (wc.heap.size ≤ w7.heap.size) := Lib.hid (Nat.le_trans HF.out.size HG7.out.size)
            clear hg7 HOB htr HTC a0 a1 a2
            go_wp2_with (at_builtin; go_loud (refine wpList_appGl (s := 2) (t := 32) (T := 99) (by decide) Tryz.underlying32 infoIm rfl (by omega) rfl _ _ rfl wc.heap.size LI [.string yt, .int .i64 (tp : Int)] rfl (fun u hu => by simp at hu; rcases hu with rfl | rfl <;> rfl) (.slice pi ni ci) rfl (OwnG.kept HO7.out (gb_alloc (gb_alloc (gb_refl w7 _) (.cells #[.int .i64 (tk : Int), .string yl, .string yt, .int .i64 (tp : Int)] 92)) (.cells #[.string yt, .int .i64 (tp : Int)] 99))) (w7.heap.size + 1) _ rfl (by have h := heap_alloc_new (w7.alloc (.cells #[.int .i64 (tk : Int), .string yl, .string yt, .int .i64 (tp : Int)] 92)) (.cells #[.string yt, .int .i64 (tp : Int)] 99); simpa using h) rfl HRI.out (by have := HS7.out; simp; omega) (w7.heap.size + 2) (by simp) ?_))
            obtain ⟨W8, hW8⟩ : ∃ W8, w7.alloc (.cells #[.int .i64 (tk : Int), .string yl, .string yt, .int .i64 (tp : Int)] 92) = W8 := ⟨_, rfl⟩
            have hs8 : W8.heap.size = w7.heap.size + 1 := by rw [← hW8]; simp
            have HG8 : Hid (wr.grownBy W8 none) := Lib.hid (by rw [← hW8]; exact gb_alloc HG7.out _)
            have HB38 := Lib.hid (bx HG8.out HB3r.out)
            have HS8 : Hid (wc.heap.size ≤ W8.heap.size) := Lib.hid (Nat.le_trans HF.out.size HG8.out.size)
            have HO8 := Lib.hid (HOI.out.kept HG8.out)
            rw [hW8]
            clear r0 r1 r2 r3 d0 d1 d2 hb3 hW8
            have hb3 : b3 < W8.heap.size := hlt HB38.out
            intro g9 cap9 w9 hO9 hg9 hl9
            have hga : W8.grownBy (W8.alloc (.cells #[.string yt, .int .i64 (tp : Int)] 99)) none := World.grownBy_alloc _ _ _
            have hsepd : ∀ k, (Value.slice pd nd cd).ownBlock = some k → k < wr.heap.size := fun k e => (OwnG.at HOD.out k e).2
            have hs8r := HG8.out.size
            have hb9w := (hg9.block b3 (by simp; omega) (fun e => by have := (OwnG.at HO8.out b3 e.symm).1; have := HS9.out; omega)).trans (show _ = _ from bx hga HB38.out)
            obtain ⟨d0, d1, d2⟩ := cells2 hb9w
            have hb3 : b3 < w9.heap.size := hlt hb9w
            have HLN9 : Hid (LI.length + 1 ≤ 1000001) := Lib.hid (by have := HRI.out; omega)
            have HB10 : Hid ((w9.setCell ⟨b3, 0, none⟩ (.slice (some ⟨g9, 0, none⟩) (LI.length + 1) cap9)).heap[b3]? = some (.cells #[.slice (some ⟨g9, 0, none⟩) (LI.length + 1) cap9, .slice pd nd cd] 35 (0, 0))) := Lib.hid (set_cells (i := 0) (u := .slice (some ⟨g9, 0, none⟩) (LI.length + 1) cap9) hb9w)
            have HO10 : Hid (OwnG 2 99 (w9.setCell ⟨b3, 0, none⟩ (.slice (some ⟨g9, 0, none⟩) (LI.length + 1) cap9)) wc.heap.size (.slice (some ⟨g9, 0, none⟩) (LI.length + 1) cap9) (LI ++ [[.string yt, .int .i64 (tp : Int)]])) := Lib.hid (hO9.keptS (Fr2.setCell (S := fun k => k = b3) (Fr2.refl _ _) (g := b3) (j := 0) rfl _) (fun g hg e => by have := HS9.out; omega))
            have HD10 : Hid (OwnG 15 62 (w9.setCell ⟨b3, 0, none⟩ (.slice (some ⟨g9, 0, none⟩) (LI.length + 1) cap9)) wc.heap.size (.slice pd nd cd) rows) := Lib.hid (((OwnG.keptR (OwnG.kept HOD.out (gb_trans HG8.out hga)) hg9 (fun k h1 h2 => HSP.out k h2 h1))).keptS (Fr2.setCell (S := fun k => k = b3) (Fr2.refl _ _) (g := b3) (j := 0) rfl _) (fun g hg e => by have := HS9.out; omega))
            have HSP10 : Hid (Sep (.slice (some ⟨g9, 0, none⟩) (LI.length + 1) cap9) (.slice pd nd cd)) := Lib.hid (sep_new HSP.out (fun k e => by have := hsepd k e; omega) hl9)
            have HLS10 : Hid (DsAt (fun k => b3 + 1 ≤ k ∧ k < (w9.setCell ⟨b3, 0, none⟩ (.slice (some ⟨g9, 0, none⟩) (LI.length + 1) cap9)).heap.size ∧ ¬ Wr3 b3 (.slice (some ⟨g9, 0, none⟩) (LI.length + 1) cap9) (.slice pd nd cd) k) (w9.setCell ⟨b3, 0, none⟩ (.slice (some ⟨g9, 0, none⟩) (LI.length + 1) cap9)) (progX T (l.take j)).defs rows) := Lib.hid (push_imp (w7 := W8) HLS.out HG8.out hga (by simp) hg9 (hl9.imp id (fun h => by omega)))
            have HF10 : Hid (Fr2 (fun k => k = b3) wc (w9.setCell ⟨b3, 0, none⟩ (.slice (some ⟨g9, 0, none⟩) (LI.length + 1) cap9))) := Lib.hid ((HF.out.low (Below.trans2 (Below.gb HG8.out HF.out.size) (Below.trans2 (Below.gb hga HS8.out) ((Fr2.of hg9 (S := fun k => (Value.slice pi ni ci).ownBlock = some k) (fun k e => e)).below (by have := HS8.out; simp; omega) (fun k e => (OwnG.at HO8.out k e).1))))).setCell rfl _)
            clear hga hsepd hs8r hb9w hO9 hg9 hl9 HO8 HOI HOD HSP HLS HF hs8
            go_wp2_with fail
            go_roundw
            case rel => exact ⟨j + 1, rows, some ⟨g9, 0, none⟩, LI.length + 1, cap9, pd, nd, cd, by omega, by go_num, HB10, Lib.hid (by rw [HIV.out.1]; exact HO10.out), HD10, HSP10, Lib.hid (by rw [HIV.out.2]; exact HLS10.out), HF10⟩
            case measure => simp [intOf]; omega
        · by_cases h3 : kindT' uj = 3
          · cases uj with
            | lf i => simp [kindT'] at h3
            | nd k' l' =>
              have h3 : k' = 3 := h3
              subst h3
              obtain ⟨n', ks', hn', hnx, hkt'⟩ := hta.nd
              have hn' : k1 = n' := by omega
              subst hn'
              have hkd := kOks_get HKO.out huj
              simp only [kOk] at hkd
              have HK1 := Lib.hid (HKI.out k1 _ wr hnx HNr.out)
              have HDX := Lib.hid (fun W h1 h2 h3 => HDF.out k1 3 ks' l' W (HOKu.out.2 l' rfl) hnx hkt' hkd.2.2 (fun z hz => by rw [← HMT.out]; exact HLV.out z (lvTs_get huj z (by simp only [lvT]; exact hz))) (by have h9 := szRs_get huj; have h8 := HSZ.out; simp only [szR] at h9; omega) h1 h2 h3)
              have HIV : Hid ((progX T (l.take (j + 1))).imps = (progX T (l.take j)).imps ∧ (progX T (l.take (j + 1))).defs = (progX T (l.take j)).defs ++ [defX T l']) := Lib.hid ⟨by rw [HNX.out.1, if_neg (show ¬ kindT' (.nd 3 l') = 2 by simp [kindT']), List.append_nil], by rw [HNX.out.2, if_pos (show kindT' (.nd 3 l') = 3 from rfl)]; rfl⟩
              have HND := Lib.hid hvd2
              clear huj hk1 hta hkn hnx hkt' hkd HOKu HNX hvd2 hvi2 h2
              go_wp2_with fail
              refine HK1.out.mono ?_
              rintro e w6 ⟨rfl, hg6⟩
              have HG6 := Lib.hid hg6
              clear a0 a1 a2 d0 d1 d2
              obtain ⟨a0, a1, a2⟩ := cells2 (bx hg6 HB0r.out)
              obtain ⟨d0, d1, d2⟩ := cells2 (bx hg6 HB3r.out)
              have hb0 : b0 < w6.heap.size := Nat.lt_of_lt_of_le hb0 hg6.size
              have hb3 : b3 < w6.heap.size := Nat.lt_of_lt_of_le hb3 hg6.size
              clear hg6 HK1
              go_wp2_with fail
              go_region_law (first
                | (refine step_appGl (s := 15) (t := 33) (T := 62) (by decide) Tryz.underlying33 infoDf rfl (by omega) rfl _ _ rfl wc.heap.size rows [q0, q1, q2, q3, q4, q5, q6, q7, q8, q9, q10, q11, q12, q13, q14] rfl HQ1.out (.slice pd nd cd) rfl (OwnG.kept HO7.out (by repeat (first | with_reducible exact gb_refl _ _ | with_reducible refine gb_drew ?_ | with_reducible refine gb_drewN ?_ _ | with_reducible refine gb_alloc ?_ _))) w7.heap.size _ rfl (by exact HNEW.out) rfl HRD.out (by have := HS57.out; simp; omega) (w7.heap.size + 1) (by simp) ?_; intro g9 cap9 w9 hO9 hg9 hl9; have hb9 := (hg9.block b3 (by simp; omega) (fun e => by have := (OwnG.at HO7.out b3 e.symm).1; have := HS9.out; omega)).trans (show _ = _ from bx (show w7.grownBy _ none from (by repeat (first | with_reducible exact gb_refl _ _ | with_reducible refine gb_drew ?_ | with_reducible refine gb_drewN ?_ _ | with_reducible refine gb_alloc ?_ _))) HB37.out); obtain ⟨r0, r1, r2⟩ := cells2 hb9; have HB9 := Lib.hid hb9; have HO9 := Lib.hid hO9; have HG9' := Lib.hid hg9; have HL9 := Lib.hid hl9; have hb3 : b3 < w9.heap.size := hlt hb9; clear hb9 hO9 hg9 hl9)
                | (go_simp; go_at_call 58; refine (HDX.out _ (HTr.out.kept (gb_trans HG6.out (by repeat (first | with_reducible exact gb_refl _ _ | with_reducible refine gb_drew ?_ | with_reducible refine gb_drewN ?_ _ | with_reducible refine gb_alloc ?_ _)))) (HNr.out.kept (gb_trans HG6.out (by repeat (first | with_reducible exact gb_refl _ _ | with_reducible refine gb_drew ?_ | with_reducible refine gb_drewN ?_ _ | with_reducible refine gb_alloc ?_ _)))) (HLr.out.kept (gb_trans HG6.out (by repeat (first | with_reducible exact gb_refl _ _ | with_reducible refine gb_drew ?_ | with_reducible refine gb_drewN ?_ _ | with_reducible refine gb_alloc ?_ _))))).mono ?_; rintro e w7 ⟨hg7, q, rfl, hq⟩; obtain ⟨-, hq1, q0, q1, q2, q3, q4, q5, q6, q7, q8, q9, q10, q11, q12, q13, q14, rfl⟩ := hq.fift; have HQ1 := Lib.hid hq1; have HG7' := Lib.hid (gb_trans HG6.out (gb_trans (show w6.grownBy _ none from (by repeat (first | with_reducible exact gb_refl _ _ | with_reducible refine gb_drew ?_ | with_reducible refine gb_drewN ?_ _ | with_reducible refine gb_alloc ?_ _))) hg7)); have HQ : Hid (DAt (fun k => wr.heap.size ≤ k) w7 _ [q0, q1, q2, q3, q4, q5, q6, q7, q8, q9, q10, q11, q12, q13, q14]) := Lib.hid (DAt.mono (fun k hk => Nat.le_trans HG6.out.size hk) hq); have HO7 := Lib.hid (HOD.out.kept HG7'.out); have HB37 := Lib.hid (bx HG7'.out HB3r.out); obtain ⟨x0, x1, x2⟩ := cells2 HB37.out; have hb37 : b3 < w7.heap.size := hlt HB37.out; have HS57 : Hid (wc.heap.size ≤ w7.heap.size) := Lib.hid (Nat.le_trans HF.out.size HG7'.out.size); have HNEW := Lib.hid (heap_alloc_new w7 (.cells #[q0, q1, q2, q3, q4, q5, q6, q7, q8, q9, q10, q11, q12, q13, q14] 62)); clear hg7 hq hq1))
              all_goals
                have hga : w7.grownBy (w7.alloc (.cells #[q0, q1, q2, q3, q4, q5, q6, q7, q8, q9, q10, q11, q12, q13, q14] 62)) none := World.grownBy_alloc _ _ _
                have HLS10 : Hid (DsAt (fun k => b3 + 1 ≤ k ∧ k < (w9.setCell ⟨b3, 1, none⟩ (.slice (some ⟨g9, 0, none⟩) (rows.length + 1) cap9)).heap.size ∧ ¬ Wr3 b3 (.slice pi ni ci) (.slice (some ⟨g9, 0, none⟩) (rows.length + 1) cap9) k) (w9.setCell ⟨b3, 1, none⟩ (.slice (some ⟨g9, 0, none⟩) (rows.length + 1) cap9)) (progX T (l.take (j + 1))).defs (rows ++ [[q0, q1, q2, q3, q4, q5, q6, q7, q8, q9, q10, q11, q12, q13, q14]])) := Lib.hid (by
                  rw [HIV.out.2]
                  exact push_def (w7 := w7) (wa := w7.alloc (.cells #[q0, q1, q2, q3, q4, q5, q6, q7, q8, q9, q10, q11, q12, q13, q14] 62)) HSr.out (by have := HS9.out; omega) (hlt HB3r.out) HOI.out HOD.out HLS.out HG7'.out HQ.out hga (by simp) HG9'.out HL9.out)
                have HB10 : Hid ((w9.setCell ⟨b3, 1, none⟩ (.slice (some ⟨g9, 0, none⟩) (rows.length + 1) cap9)).heap[b3]? = some (.cells #[.slice pi ni ci, .slice (some ⟨g9, 0, none⟩) (rows.length + 1) cap9] 35 (0, 0))) := Lib.hid (set_cells (i := 1) (u := .slice (some ⟨g9, 0, none⟩) (rows.length + 1) cap9) HB9.out)
                have HO10 : Hid (OwnG 15 62 (w9.setCell ⟨b3, 1, none⟩ (.slice (some ⟨g9, 0, none⟩) (rows.length + 1) cap9)) wc.heap.size (.slice (some ⟨g9, 0, none⟩) (rows.length + 1) cap9) (rows ++ [[q0, q1, q2, q3, q4, q5, q6, q7, q8, q9, q10, q11, q12, q13, q14]])) := Lib.hid (HO9.out.keptS (Fr2.setCell (S := fun k => k = b3) (Fr2.refl _ _) (g := b3) (j := 1) rfl _) (fun g hg e => by have := HS9.out; omega))
                have HI10 : Hid (OwnG 2 99 (w9.setCell ⟨b3, 1, none⟩ (.slice (some ⟨g9, 0, none⟩) (rows.length + 1) cap9)) wc.heap.size (.slice pi ni ci) ((progX T (l.take (j + 1))).imps.map impV)) := Lib.hid (by
                  rw [HIV.out.1]
                  exact ((OwnG.keptR (OwnG.kept HOI.out (gb_trans HG7'.out hga)) HG9'.out (fun k h1 h2 => HSP.out k h1 h2))).keptS (Fr2.setCell (S := fun k => k = b3) (Fr2.refl _ _) (g := b3) (j := 1) rfl _) (fun g hg e => by have := HS9.out; omega))
                have HSP10 : Hid (Sep (.slice pi ni ci) (.slice (some ⟨g9, 0, none⟩) (rows.length + 1) cap9)) := Lib.hid (Sep.symm (sep_new (Sep.symm HSP.out) (fun k e => by have h1 := (OwnG.at HOI.out k e).2; have h2 := HG7'.out.size; omega) HL9.out))
                have HF10 : Hid (Fr2 (fun k => k = b3) wc (w9.setCell ⟨b3, 1, none⟩ (.slice (some ⟨g9, 0, none⟩) (rows.length + 1) cap9))) := Lib.hid ((HF.out.low (Below.trans2 (Below.gb HG7'.out HF.out.size) (Below.trans2 (Below.gb hga HS57.out) ((Fr2.of HG9'.out (S := fun k => (Value.slice pd nd cd).ownBlock = some k) (fun k e => e)).below (by have := HS57.out; simp; omega) (fun k e => (OwnG.at HO7.out k e).1))))).setCell rfl _)
                clear hga HO9 HB9 HG9' HL9 HNEW HQ HQ1 HO7 HB37 r0 r1 r2 x0 x1 x2 HLS HOI HOD HF
                go_wp2_with fail
                go_roundw
                case rel => exact ⟨j + 1, rows ++ [[q0, q1, q2, q3, q4, q5, q6, q7, q8, q9, q10, q11, q12, q13, q14]], pi, ni, ci, some ⟨g9, 0, none⟩, rows.length + 1, cap9, by omega, by go_num, HB10, HI10, HO10, HSP10, HLS10, HF10⟩
                case measure => simp [intOf]; omega
          · have HIV : Hid ((progX T (l.take (j + 1))).imps = (progX T (l.take j)).imps ∧ (progX T (l.take (j + 1))).defs = (progX T (l.take j)).defs) := Lib.hid ⟨by rw [HNX.out.1, if_neg h2, List.append_nil], by rw [HNX.out.2, if_neg h3, List.append_nil]⟩
            obtain ⟨xk, HKx, hxk, hxk2⟩ : ∃ xk : Int, (Calls Tryz.prog 56 #[.agg #[.slice pt mt ct, .slice pn mn cn], .int .i64 (k1 : Int)] wr (ValPost (.int .i64 xk) wr)) ∧ (xk == 2) = false ∧ (xk == 3) = false := by
              cases uj with
              | lf i =>
                obtain ⟨n', hn', hnx⟩ := hta.lf
                have hn' : k1 = n' := by omega
                subst hn'
                exact ⟨19, HKI.out k1 _ wr hnx HNr.out, rfl, rfl⟩
              | nd k' l' =>
                obtain ⟨n', ks', hn', hnx, -⟩ := hta.nd
                have hn' : k1 = n' := by omega
                subst hn'
                exact ⟨(k' : Int), HKI.out k1 _ wr hnx HNr.out, beq_eq_false_iff_ne.2 (fun e => h2 (by have e2 : k' = 2 := (by omega); exact e2)), beq_eq_false_iff_ne.2 (fun e => h3 (by have e2 : k' = 3 := (by omega); exact e2))⟩
            have HKx := Lib.hid HKx
            clear huj hk1 hta hkn h2 h3 hvi2 hvd2
            go_wp2_with fail
            refine HKx.out.mono ?_
            rintro e w6 ⟨rfl, hg6⟩
            have HG6 := Lib.hid hg6
            clear hg6
            go_wp2_with fail
            go_roundw
            case rel => exact ⟨j + 1, rows, pi, ni, ci, pd, nd, cd, by omega, by go_num, Lib.hid (bx HG6.out HB3r.out), Lib.hid (by rw [HIV.out.1]; exact HOI.out.kept HG6.out), Lib.hid (HOD.out.kept HG6.out), HSP, Lib.hid (by rw [HIV.out.2]; exact Ds_mono (fun k hk => ⟨hk.1, Nat.lt_of_lt_of_le hk.2.1 HG6.out.size, hk.2.2⟩) (Ds_kept HLS.out HG6.out)), Lib.hid (HF.out.trans (Fr2.none HG6.out))⟩
            case measure => simp [intOf]; omega
      · obtain rfl : j = M := by omega
        have HLL : Hid (l.take j = l) := Lib.hid (List.take_of_length_le (by have := HML.out; omega))
        rw [HLL.out] at HOI HLS
        obtain ⟨f0, f1, f2⟩ := cells2 HB2r.out
        have hb2 : b2 < wr.heap.size := hlt HB2r.out
        have HP := Lib.hid (prg_fin h23 hww HS9.out HGr.out HB2r.out HOI.out HOD.out HLS.out)
        go_wp2_with fail
        have hc := set_cells (i := 1) (u := .slice pd nd cd) (set_cells (i := 0) (u := .slice pi ni ci) HB2r.out)
        obtain ⟨k0, k1, -⟩ := cells2 (show ((wr.setCell ⟨b2, 0, none⟩ (.slice pi ni ci)).setCell ⟨b2, 1, none⟩ (.slice pd nd cd)).heap[b2]? = some (Obj.cells #[.slice pi ni ci, .slice pd nd cd] 35 (0, 0)) from hc)
        refine bodyPost_ret (v := .agg #[.slice pi ni ci, .slice pd nd cd]) (by simp [results, Tryz.results26, go_sem, k0, k1]) rfl HP.out
end Go.Proofs.YtoahgeleenpnjaaGreatDoor
