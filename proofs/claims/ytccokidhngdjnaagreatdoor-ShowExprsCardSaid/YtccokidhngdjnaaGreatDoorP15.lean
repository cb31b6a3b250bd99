/- Lemmas. -/
import Derived.LaidMore
import Derived.Lay
import Derived.Lib.LaidTab
import Derived.Test.YtccokidhngdjnaaGreatDoorTie
import Derived.Test.YtccokidhngdjnaaGreatDoorP26
set_option linter.unusedVariables false
set_option linter.unusedSimpArgs false
namespace Go.Proofs.YtccokidhngdjnaaGreatDoor
open Go.ChangeShapes Go.WideShapes Go.ChangeAt Go.RowKit Go.ChangeMaps

def laidL : List (String × DataW Unit) := [("unicode/utf8.acceptRanges", Rows.laid_unicode_utf8_acceptRanges), ("touchstone/lex.keys", Rows.laid_touchstone_lex_keys), ("touchstone/lex.signs", Rows.laid_touchstone_lex_signs), ("touchstone/ast.signs", Rows.laid_touchstone_ast_signs), ("touchstone/show.signs", Rows.laid_touchstone_show_signs), ("unicode/utf8.first", Rows.laid_unicode_utf8_first)]

/-- An array of strings that reads as these texts holds them, cell for cell. -/
theorem cells_of_strs {H : Type} {enc : TypeId × Value → H} {P : Program} {w : World} {base : Nat} {sp : Nat → Bool} {held : Bool} {fuel : Nat} {t e : TypeId} {n : Nat} {cs : List Value} {zs : List (List UInt8)} {p : List MemPlace}
    (ht : P.underlying t = some (.array n e)) (he : P.underlying e = some .string) (hce : P.cellsOf e = 1) (hct : P.cellsOf t = n)
    (h : DataW.trod enc P w base sp held fuel t cs = some (.agg (zs.map fun z => .lit (.string z)), p)) : cs = zs.map strV := by
  obtain ⟨xs, m, rfl, hx, hl, hxl, hall⟩ := DataW.trod_array ht h
  simp only [Prod.mk.injEq, DataW.agg.injEq] at hx
  have hzl : zs.length = n := by
    have := congrArg List.length hx.1
    simp at this; omega
  apply List.ext_getElem?
  intro i
  by_cases hi : i < n
  · have h1 := hall i hi
    rw [hce, Nat.mul_one] at h1
    have hxi : xs[i]? = some xs[i] := List.getElem?_eq_getElem (by omega)
    rw [hxi] at h1
    obtain ⟨s, hc, hs, _⟩ := DataW.trod_string he h1
    have h2 : cs[i]? = some (.string s) := by
      have := congrArg (·[0]?) hc
      simpa [List.getElem?_take, List.getElem?_drop] using this
    have h3 : (xs.map (·.1))[i]? = some (DataW.lit (.string s.data.toList) : DataW H) := by simp [hxi, hs]
    rw [← hx.1] at h3
    simp only [List.getElem?_map, Option.map_eq_some_iff, DataW.lit.injEq, Lit.string.injEq] at h3
    obtain ⟨z, hz, hzs⟩ := h3
    rw [h2, List.getElem?_map, hz, hzs]
    rfl
  · rw [List.getElem?_eq_none (by omega), List.getElem?_eq_none (by simp; omega)]

theorem tKeys : (Tryz.prog.globals[4]?).map (·.type) = some 182 := by kernel_rfl
theorem tSigns : (Tryz.prog.globals[5]?).map (·.type) = some 191 := by kernel_rfl
theorem gAsts : Tryz.prog.globalNamed "touchstone/ast.signs" = some 0 := by kernel_rfl
theorem gShows : Tryz.prog.globalNamed "touchstone/show.signs" = some 3 := by kernel_rfl
theorem tShows : (Tryz.prog.globals[3]?).map (·.type) = some 80 := by kernel_rfl
theorem tAsts : (Tryz.prog.globals[0]?).map (·.type) = some 80 := by kernel_rfl
theorem cAsts : Tryz.prog.cellsOf 80 = 14 := by kernel_rfl
theorem cStr : Tryz.prog.cellsOf 9 = 1 := by kernel_rfl
theorem cKeys : Tryz.prog.cellsOf 182 = 15 := by kernel_rfl
theorem cSigns : Tryz.prog.cellsOf 191 = 22 := by kernel_rfl

theorem of_laid {W : World} (h : laidMetH Tryz.prog laidL W) : LaidE W ∧ LaidS W ∧ LaidW W := by
  rw [MakeChecks.laidMetH_plain _ _ _ (by kernel_rfl)] at h
  obtain ⟨ps, ⟨g0, t0, cs0, f0, p0, q0, hg0, ht0, hv0, hd0, ⟨g1, t1, cs1, f1, p1, q1, hg1, ht1, hv1, hd1, ⟨g2, t2, cs2, f2, p2, q2, hg2, ht2, hv2, hd2, ⟨g3, t3, cs3, f3, p3, q3, hg3, ht3, hv3, hd3, ⟨g4, t4, cs4, f4, p4, q4, hg4, ht4, hv4, hd4, _, _⟩, _⟩, _⟩, _⟩, _⟩, _, _⟩ := h
  obtain rfl := Option.some.inj (gKeys.symm.trans hg1)
  obtain rfl := Option.some.inj (gSigns.symm.trans hg2)
  obtain rfl := Option.some.inj (gAsts.symm.trans hg3)
  obtain rfl := Option.some.inj (gShows.symm.trans hg4)
  obtain rfl := Option.some.inj (tKeys.symm.trans ht1)
  obtain rfl := Option.some.inj (tSigns.symm.trans ht2)
  obtain rfl := Option.some.inj (tAsts.symm.trans ht3)
  obtain rfl := Option.some.inj (tShows.symm.trans ht4)
  have k1 := cells_of_strs (zs := keysL) Tryz.underlying182 Tryz.underlying9 cStr cKeys hd1
  have k2 := cells_of_strs (zs := signsL) Tryz.underlying191 Tryz.underlying9 cStr cSigns hd2
  have k3 := cells_of_strs (zs := signs8) Tryz.underlying80 Tryz.underlying9 cStr cAsts hd3
  have k4 := cells_of_strs (zs := signs9) Tryz.underlying80 Tryz.underlying9 cStr cAsts hd4
  refine ⟨⟨fun j v hj => ?_, fun j v hj => ?_⟩, fun j v hj => ?_, fun j l hj => ?_⟩
  · rw [World.var?_cell hg1 hv1 j, ← Array.getElem?_toList, k1]; exact hj
  · rw [World.var?_cell hg2 hv2 j, ← Array.getElem?_toList, k2]; exact hj
  · rw [World.var?_cell hg3 hv3 j, ← Array.getElem?_toList, k3]; exact hj
  · rw [World.var?_cell hg4 hv4 j, ← Array.getElem?_toList, k4, List.getElem?_map, hj]; rfl

theorem laidOut : laidOutB Tryz.prog = true := by kernel_rfl
theorem own : ownKnob Tryz.prog.godebug = none := by kernel_rfl
set_option maxRecDepth 100000 in
theorem start_shaped (os : Os) (args : Array Value) : ((World.laidAll Tryz.prog os laidL).forCall (fun _ _ => 0) ⟨#[], args, []⟩).Shaped Tryz.prog := World.shaped_of_ZipB (by kernel_rfl) (by kernel_rfl)
set_option maxRecDepth 100000 in
theorem start_met (os : Os) (args : Array Value) : laidMetH Tryz.prog laidL ((World.laidAll Tryz.prog os laidL).forCall (fun _ _ => 0) ⟨#[], args, []⟩).memory := by
  rw [MakeChecks.laidMetH_plain _ _ _ (by kernel_rfl)]
  exact laidMet_laidAll _ (by kernel_rfl) (by kernel_rfl)
open Go.RowKit

section
variable (b bb : Nat) (T : List Tok) (D n : Nat)

set_option maxRecDepth 100000 in
set_option maxHeartbeats 4000000 in
theorem formula_p (hC : TokC T) (hD : D ≤ 200) (hn : n ≤ D) (hA : SubI b bb T D n (fun _ => True) 88 (orT T D n (NT T D n))) (hB : n < D → SubI b bb T D (n + 1) (fun _ => True) 60 (formulaT T D (n + 1) (NT T D (n + 1)))) : SubI b bb T D n (fun _ => True) 60 (formulaT T D n (NT T D n)) := by
  intro s N vn A w hP h
  have HCC := Lib.hid hC; have HPP := Lib.hid hP
  have HSA := Lib.hid hA
  have HNB := Lib.hid (nested_formula b bb T D n hD hn (fun _ => True) _ hB)
  have HEQ := Lib.hid (fun s hk => form_eqv T hn (sub := formulaT T D (n + 1) (NT T D (n + 1))) (nt := NT T D n) (fun hlt => by rw [NT_succ T hlt]) s hk)
  have HK := Lib.hid (KX.start h)
  have HFEW := Lib.hid h.few
  have HA := Lib.hid (OutL.nil N s)
  clear h hC hP hD hn hA hB
  go_enter Tryz.func60, Tryz.ntmps60
  go_wp2_with fail
  refine (HK.out.sub HSA.out trivial).mono ?_
  rintro e w9 ⟨v9, N9, vn9, rfl, hk9, ho9, hd9⟩
  have HK := Lib.hid hk9; have HO := Lib.hid ho9; have HA := Lib.hid ho9.out; have HDD := Lib.hid hd9
  clear hk9 ho9 hd9
  go_wp2_with fail
  refine (KX.at (ws := [[61, 62]]) (HK.out.strs1 _ _) (List.mem_cons_self ..) (by decide)).mono ?_
  rintro e w1 ⟨rfl, hk⟩
  have HK := Lib.hid (hk.nils)
  obtain ⟨b1, hb⟩ : ∃ b1, isQ T [61, 62] (orT T D n (NT T D n) s).2 = b1 := ⟨_, rfl⟩
  rw [at_one HCC.out (by decide), hb]
  have HV1 := Lib.hid hb
  clear hk hb
  cases b1
  · have HQ := Lib.hid (KX.fin HO.out HK.out HDD.out (r' := formulaT T D n (NT T D n) s) (by rw [show formulaT T D n (NT T D n) s = orT T D n (NT T D n) s from if_neg (by rw [HV1.out]; decide)]; exact Eqv.refl _))
    go_wp2_with fail
    go_ret
    exact HQ.out
  · skip
    have HLI := Lib.hid (is_kind HV1.out)
    go_wp2_with fail
    have HK := Lib.hid HK.out.drew
    go_region_held3 (fun w' => w'.cell? ⟨b, 0, none⟩ = some (.pointer (some ⟨bb, 0, none⟩))) (first | with_reducible exact HK.out.cell | with_reducible exact (HK.out.alloc _).cell | with_reducible exact ((HK.out.alloc _).alloc _).cell | with_reducible exact (((HK.out.alloc _).alloc _).alloc _).cell)
      (first
        | (go_at_call 90; (first | with_reducible refine (HK.out.take HCC.out HLI.out.1 HLI.out.2).mono ?_ | with_reducible refine ((HK.out.strs1 _ _).take HCC.out HLI.out.1 HLI.out.2).mono ?_ | with_reducible refine (((HK.out.strs1 _ _).strs1 _ _).take HCC.out HLI.out.1 HLI.out.2).mono ?_); rintro e w9 ⟨v9, N9, vn9, rfl, hk9, ho9, hd9⟩; have HK := Lib.hid hk9; have HD := Lib.hid (OutD.app HA.out ho9 hd9); have HA := Lib.hid HD.out.out; clear hk9 ho9 hd9)
        | (go_at_call 59; (first | with_reducible refine (HK.out.call (fun A h => HNB.out _ _ _ A _ trivial h)).mono ?_ | with_reducible refine ((HK.out.strs1 _ _).call (fun A h => HNB.out _ _ _ A _ trivial h)).mono ?_ | with_reducible refine (((HK.out.strs1 _ _).strs1 _ _).call (fun A h => HNB.out _ _ _ A _ trivial h)).mono ?_); rintro e w9 ⟨v9, N9, vn9, rfl, hk9, ho9, hd9⟩; have HK := Lib.hid hk9; have HD := Lib.hid (OutD.app HA.out ho9 hd9); have HA := Lib.hid HD.out.out; clear hk9 ho9 hd9)
        | (go_at_call 58; have HDW := Lib.hid (HD.out.weak (j := 0 + 1) (by decide)); refine (KX.node (k := 0) (kind := 10) (HK.out.ints3 _ _ _ ) ?_ HCC.out.len HDW.out ?_ HFEW.out ?_).mono ?_; exact List.mem_cons_self ..; rfl; simp; rintro e w9 ⟨v9, N9, vn9, rfl, hk9, ho9⟩; have HK := Lib.hid hk9; have HZ := Lib.hid ho9; clear hk9 ho9))
    all_goals
      have HQ := Lib.hid (KX.fin HZ.out HK.out (fun he => absurd HLI.out.2 (HDD.out he)) (r' := (formulaT T D n (NT T D n)) s) (HEQ.out _ HV1.out))
      go_wp2_with fail
      go_ret
      exact HQ.out
end
end Go.Proofs.YtccokidhngdjnaaGreatDoor
namespace Go.Proofs.YtccokidhngdjnaaGreatDoor
open Go.RowKit

/-- The eight cells, each by its kind. -/
theorem EAt.form {F : Nat → Prop} {w : World} {x : Ex} {q : List Value} (h : EAt F w x q) : ∃ (op ps : Int) (a b : ByteArray) (s y : Bool) (p p' : Option Addr) (n c n' c' : Nat), q = [.int .i64 op, .string a, .string b, .bool s, .slice p n c, .bool y, .slice p' n' c', .int .i64 ps] := by
  cases x with
  | mk op nm md nu ys ks ps =>
    simp only [EAt] at h
    obtain ⟨s, pw, nw, cw, pk, ck, rows, rfl, -⟩ := h
    exact ⟨_, _, _, _, _, _, _, _, _, _, _, _, rfl⟩


theorem join_snoc (t : List UInt8) : ∀ l : List (List UInt8), joinT (l ++ [t]) = joinT l ++ (if l.length = 0 then [] else [44, 32]) ++ t
  | [] => by simp [joinT]
  | [a] => by simp [joinT]
  | a :: b :: l => by
    have h := join_snoc t (b :: l)
    simp only [List.cons_append] at h ⊢
    simp only [joinT, h]
    simp
theorem join_take {ts : List (List UInt8)} {j : Nat} {t : List UInt8} (h : ts[j]? = some t) : joinT (ts.take (j + 1)) = joinT (ts.take j) ++ (if j = 0 then [] else [44, 32]) ++ t := by
  have hj := (List.getElem?_eq_some_iff.1 h).1
  rw [List.take_add_one, h]
  show joinT (ts.take j ++ [t]) = _
  rw [join_snoc, List.length_take, Nat.min_eq_left (by omega)]
theorem join_take_len (ts : List (List UInt8)) : ∀ j, (joinT (ts.take j)).length ≤ (joinT (ts.take (j + 1))).length := fun j => by
  cases h : ts[j]? with
  | none => rw [List.getElem?_eq_none_iff] at h; rw [List.take_of_length_le h, List.take_of_length_le (by omega)]; exact Nat.le_refl _
  | some t => rw [join_take h, List.length_append, List.length_append]; omega
theorem join_le (ts : List (List UInt8)) (j : Nat) : (joinT (ts.take j)).length ≤ (joinT ts).length := by
  have h : ∀ d, (joinT (ts.take j)).length ≤ (joinT (ts.take (j + d))).length := fun d => by
    induction d with
    | zero => exact Nat.le_refl _
    | succ d ih => exact Nat.le_trans ih (join_take_len ts (j + d))
  have := h ts.length
  rwa [List.take_of_length_le (l := ts) (i := j + ts.length) (by omega)] at this
set_option maxRecDepth 100000 in
set_option maxHeartbeats 16000000 in
theorem rcall_c (op : Int) (nm md : List UInt8) (su : ByteArray) (ys : Bool) (pk : Option Addr) (kl ck : Nat) (ps : Int) (rows : List (List Value)) (ts : List (List UInt8)) (w : World) (hG : GAt 7 w pk rows) (hr : rows.length = kl) (ht : ts.length = kl) (hk : kl ≤ 1000000) (hw7 : ∀ q ∈ rows, q.length = 7)
    (HK : ∀ (j : Nat) (q : List Value) (t : List UInt8), rows[j]? = some q → ts[j]? = some t → ∀ W, w.grownBy W none → Calls Tryz.prog 9 #[.agg q.toArray] W (StrX t W))
    (hT : md.length + nm.length + (joinT ts).length ≤ 2000000000) :
    Calls Tryz.prog 20 #[.agg #[.int .i64 op, .string ⟨nm.toArray⟩, .string ⟨md.toArray⟩, .string su, .bool ys, .slice pk kl ck, .int .i64 ps]] w (StrX ((if md = [] then [] else md ++ [46]) ++ nm ++ [40] ++ joinT ts ++ [41]) w) := by
  obtain ⟨pre, hpre⟩ : ∃ pre, (if md = [] then [] else md ++ [46]) ++ nm ++ [40] = pre := ⟨_, rfl⟩
  rw [hpre]
  have hpl : pre.length ≤ md.length + nm.length + 2 := by
    rw [← hpre, List.length_append, List.length_append]
    have := ite_le (c := md = []) (a := []) (b := md ++ [46]) (n := md.length + 1) (by simp) (by simp)
    simp only [List.length_cons, List.length_nil]; omega
  have HPR := Lib.hid hpre
  have HG := Lib.hid hG; have HR := Lib.hid hr; have HT := Lib.hid ht; have HKB := Lib.hid hk; have HW7 := Lib.hid hw7; have HK := Lib.hid HK; have HTL := Lib.hid hT; have HPL := Lib.hid hpl
  obtain ⟨R, hR⟩ : ∃ R, pre ++ joinT ts ++ [41] = R := ⟨_, rfl⟩
  rw [hR]
  have HRR := Lib.hid hR
  have z1 : ¬ 9223372036854775807 < nm.length + 1 := by omega
  have z2 : ¬ 9223372036854775807 < md.length + 1 := by omega
  have z3 : ¬ 9223372036854775807 < md.length + 1 + (nm.length + 1) := by omega
  clear hpre hG hr ht hk hw7 hT hpl hR
  go_enter Tryz.func20, Tryz.ntmps20
  go_upto_region 1 with fail
  have hgA := World.grownBy_alloc w (.cells #[.int .i64 op, .string ⟨nm.toArray⟩, .string ⟨md.toArray⟩, .string su, .bool ys, .slice pk kl ck, .int .i64 ps] 33) none
  have hbA := heap_alloc_new w (.cells #[.int .i64 op, .string ⟨nm.toArray⟩, .string ⟨md.toArray⟩, .string su, .bool ys, .slice pk kl ck, .int .i64 ps] 33)
  generalize (w.alloc (.cells #[.int .i64 op, .string ⟨nm.toArray⟩, .string ⟨md.toArray⟩, .string su, .bool ys, .slice pk kl ck, .int .i64 ps] 33)) = WA at *
  obtain ⟨b, hb⟩ : ∃ b, w.heap.size = b := ⟨_, rfl⟩
  rw [hb] at hbA ⊢
  have HGA := Lib.hid hgA; have HBA := Lib.hid hbA
  clear hgA hbA hb
  obtain ⟨c0, c1, c2, c3, c4, c5, c6, hbw⟩ := cells7x HBA.out
  by_cases hmd : md = []
  focus
    have hpe : Hid (pre = nm ++ [40]) := Lib.hid (by rw [← HPR.out, if_pos hmd]; rfl)
    subst hmd
    go_upto_region 4 with fail
    have hs : (⟨nm.toArray⟩ : ByteArray) ++ (⟨#[40]⟩ : ByteArray) = ⟨pre.toArray⟩ := by rw [hpe.out, ba_cat]
    rw [hs]
    clear hs hpe
  rotate_left 1
  focus
    have hpe : Hid (pre = (md ++ [46]) ++ (nm ++ [40])) := Lib.hid (by rw [← HPR.out, if_neg hmd]; simp)
    have hme : md.isEmpty = false := by cases md with | nil => exact absurd rfl hmd | cons a l => rfl
    go_upto_region 4 with fail
    have hs : (⟨md.toArray⟩ : ByteArray) ++ (⟨#[46]⟩ : ByteArray) ++ ((⟨nm.toArray⟩ : ByteArray) ++ (⟨#[40]⟩ : ByteArray)) = ⟨pre.toArray⟩ := by rw [hpe.out, ba_cat, ba_cat, ba_cat]
    rw [hs]
    clear hs hpe hme hmd
  rotate_left 1
  all_goals
    clear c0 c1 c2 c3 c4 c5 c6 hbw z1 z2 z3 HPR
    go_wp2_with fail
    go_loopg [3, 4] kl (fun gk sv iv wr => ∃ (j : Nat) (s : List UInt8), j ≤ kl ∧ iv = .int .i64 (j : Int) ∧ sv = .string ⟨s.toArray⟩ ∧ kl - j ≤ gk ∧ gk ≤ kl ∧ Hid (s = pre ++ joinT (ts.take j)) ∧ Hid (WA.grownBy wr none))
    case atStart => exact ⟨0, pre, Nat.zero_le _, rfl, rfl, by omega, Nat.le_refl _, Lib.hid (by simp [joinT]), Lib.hid (gb_refl _ _)⟩
    case round =>
      obtain ⟨j, s, hj, rfl, rfl, hgk1, hgk2, HS, HGR⟩ := hrel
      obtain ⟨c0, c1, c2, c3, c4, c5, c6, hbw⟩ := cells7x (bx HGR.out HBA.out)
      have HGW : Hid (w.grownBy wr none) := Lib.hid (gb_trans HGA.out HGR.out)
      have hsl : s.length ≤ 2000000010 := by
        rw [HS.out, List.length_append]
        have h1 := join_le ts j
        have h2 := HTL.out; have h3 := HPL.out; omega
      by_cases hlt : j < kl
      · have y3 : decide ((j : Int) < (kl : Int)) = true := decide_eq_true (by omega)
        have y4 : decide (j < kl) = true := decide_eq_true hlt
        have hwj : IntKind.i64.wrap ((j : Int) + 1) = (j : Int) + 1 := IntWalk.i64_in _ (by have := HKB.out; omega)
        obtain ⟨q, hq⟩ : ∃ q, rows[j]? = some q := ⟨rows[j]'(by rw [HR.out]; exact hlt), List.getElem?_eq_getElem _⟩
        obtain ⟨t, ht⟩ : ∃ t, ts[j]? = some t := ⟨ts[j]'(by rw [HT.out]; exact hlt), List.getElem?_eq_getElem _⟩
        have hq7 := HW7.out q (List.mem_of_getElem? hq)
        obtain ⟨v0, v1, v2, v3, v4, v5, v6, rfl⟩ : ∃ v0 v1 v2 v3 v4 v5 v6, q = [v0, v1, v2, v3, v4, v5, v6] := by
          match q, hq7 with
          | [v0, v1, v2, v3, v4, v5, v6], _ => exact ⟨_, _, _, _, _, _, _, rfl⟩
        have HCK := Lib.hid (HK.out j _ t hq ht wr HGW.out)
        have HNX := Lib.hid (join_take ht)
        have htl : t.length ≤ 2000000000 := by
          have h1 := join_le ts (j + 1)
          rw [join_take ht, List.length_append] at h1
          have h2 := HTL.out; omega
        obtain ⟨g, off, rfl, hgl, hc⟩ := HG.out.resolve_left (fun e => by rw [e] at hq; simp at hq)
        have hc := fun i v h => HGW.out.cell (hc j _ hq i v h) (by simp)
        have k0 := hc 0 _ rfl
        have k1 := hc 1 _ rfl
        have k2 := hc 2 _ rfl
        have k3 := hc 3 _ rfl
        have k4 := hc 4 _ rfl
        have k5 := hc 5 _ rfl
        have k6 := hc 6 _ rfl
        rw [Nat.add_zero] at k0
        have hgl := Nat.lt_of_lt_of_le hgl HGW.out.size
        clear hq ht hq7 hc
        rcases Nat.eq_zero_or_pos j with hj0 | hj0
        focus
          have hnx : Hid (s ++ t = pre ++ joinT (ts.take (j + 1))) := Lib.hid (by rw [HNX.out, HS.out, if_pos hj0]; simp)
          have y5 : decide ((0 : Int) < (j : Int)) = false := decide_eq_false (by omega)
          have y6 : ¬ 0 < j := by omega
          clear hj0
          have z4 : ¬ 9223372036854775807 < s.length + t.length := by omega
          go_wp2_with fail
        rotate_left 1
        focus
          have hnx : Hid (s ++ [44, 32] ++ t = pre ++ joinT (ts.take (j + 1))) := Lib.hid (by rw [HNX.out, HS.out, if_neg (by omega)]; simp)
          have y5 : decide ((0 : Int) < (j : Int)) = true := decide_eq_true (by omega)
          have z4 : ¬ 9223372036854775807 < s.length + 2 := by omega
          have z5 : ¬ 9223372036854775807 < s.length + 2 + t.length := by omega
          go_wp2_with fail
        rotate_left 1
        all_goals
          refine HCK.out.mono ?_
          rintro e w7 ⟨rfl, hg7⟩
          have HG7 : Hid (WA.grownBy w7 none) := Lib.hid (gb_trans HGR.out hg7)
          clear hg7 k0 k1 k2 k3 k4 k5 k6 hgl HCK c0 c1 c2 c3 c4 c5 c6 hbw
          go_wp2_with fail
          go_roundg (kl - (j + 1))
          case rel =>
            first
              | exact ⟨j + 1, s ++ t, by omega, by go_num, by rw [ba_cat], Nat.le_refl _, by omega, hnx, HG7⟩
              | exact ⟨j + 1, s ++ [44, 32] ++ t, by omega, by go_num, by rw [ba_cat, ba_cat], Nat.le_refl _, by omega, hnx, HG7⟩
          case measure => omega
      · obtain rfl : j = kl := by omega
        have y3 : decide ((j : Int) < (j : Int)) = false := decide_eq_false (by omega)
        have z4 : ¬ 9223372036854775807 < s.length + 1 := by omega
        have HF : Hid (R = s ++ [41]) := Lib.hid (by rw [← HRR.out, HS.out, List.take_of_length_le (by rw [HT.out]; exact Nat.le_refl _)])
        go_wp2_with fail
        go_ret
        exact ⟨by rw [HF.out, ba_cat]; rfl, HGW.out⟩
end Go.Proofs.YtccokidhngdjnaaGreatDoor
