/- Lemmas. -/
import Derived.LaidMore
import Derived.Lay
import Derived.Lib.LaidTab
import Derived.Test.YtijpelkjeejjfaaGreatDoorTie
import Derived.Test.YtijpelkjeejjfaaGreatDoorP25
set_option linter.unusedVariables false
set_option linter.unusedSimpArgs false
namespace Go.Proofs.YtijpelkjeejjfaaGreatDoor
open Go.ChangeShapes Go.WideShapes Go.ChangeAt Go.RowKit Go.ChangeMaps

def laidL : List (String × DataW Unit) := [("unicode/utf8.acceptRanges", Rows.laid_unicode_utf8_acceptRanges), ("touchstone/lex.keys", Rows.laid_touchstone_lex_keys), ("touchstone/lex.signs", Rows.laid_touchstone_lex_signs), ("touchstone/ast.signs", Rows.laid_touchstone_ast_signs), ("touchstone/show.signs", Rows.laid_touchstone_show_signs), ("unicode/utf8.first", Rows.laid_unicode_utf8_first)]

/-- An array of strings that reads as these texts holds them, cell for cell. -/
theorem cells_of_strs {H : Type} {enc : TypeId × Value → H} {P : Program} {w : World} {base : Nat} {sp : Nat → Bool} {held : Bool} {fuel : Nat} {t e : TypeId} {n : Nat} {cs : List Value} {zs : List (List UInt8)} {p : List MemPlace}
    (ht : P.underlying t = some (.array n e)) (he : P.underlying e = some .string) (hce : P.cellsOf e = 1) (hct : P.cellsOf t = n)
    (h : DataW.trod enc P w base sp held fuel t cs = some (.agg (zs.map fun z => .lit (.string z)), p)) : cs = zs.map strV := by
  obtain ⟨xs, m, rfl, hx, hl, hxl, hall⟩ := DataW.trod_array ht h
  simp only [Prod.mk.injEq, DataW.agg.injEq] at hx
  have hzl : zs.length = n := by
    have := congrArg List.length hx.1
    simp at this; omega
  apply List.ext_getElem?
  intro i
  by_cases hi : i < n
  · have h1 := hall i hi
    rw [hce, Nat.mul_one] at h1
    have hxi : xs[i]? = some xs[i] := List.getElem?_eq_getElem (by omega)
    rw [hxi] at h1
    obtain ⟨s, hc, hs, _⟩ := DataW.trod_string he h1
    have h2 : cs[i]? = some (.string s) := by
      have := congrArg (·[0]?) hc
      simpa [List.getElem?_take, List.getElem?_drop] using this
    have h3 : (xs.map (·.1))[i]? = some (DataW.lit (.string s.data.toList) : DataW H) := by simp [hxi, hs]
    rw [← hx.1] at h3
    simp only [List.getElem?_map, Option.map_eq_some_iff, DataW.lit.injEq, Lit.string.injEq] at h3
    obtain ⟨z, hz, hzs⟩ := h3
    rw [h2, List.getElem?_map, hz, hzs]
    rfl
  · rw [List.getElem?_eq_none (by omega), List.getElem?_eq_none (by simp; omega)]

theorem tKeys : (Tryz.prog.globals[4]?).map (·.type) = some 186 := by kernel_rfl
theorem tSigns : (Tryz.prog.globals[5]?).map (·.type) = some 195 := by kernel_rfl
theorem gAsts : Tryz.prog.globalNamed "touchstone/ast.signs" = some 1 := by kernel_rfl
theorem gShows : Tryz.prog.globalNamed "touchstone/show.signs" = some 0 := by kernel_rfl
theorem tShows : (Tryz.prog.globals[0]?).map (·.type) = some 81 := by kernel_rfl
theorem tAsts : (Tryz.prog.globals[1]?).map (·.type) = some 81 := by kernel_rfl
theorem cAsts : Tryz.prog.cellsOf 81 = 14 := by kernel_rfl
theorem cStr : Tryz.prog.cellsOf 9 = 1 := by kernel_rfl
theorem cKeys : Tryz.prog.cellsOf 186 = 15 := by kernel_rfl
theorem cSigns : Tryz.prog.cellsOf 195 = 22 := by kernel_rfl

theorem of_laid {W : World} (h : laidMetH Tryz.prog laidL W) : LaidE W ∧ LaidS W ∧ LaidW W := by
  rw [MakeChecks.laidMetH_plain _ _ _ (by kernel_rfl)] at h
  obtain ⟨ps, ⟨g0, t0, cs0, f0, p0, q0, hg0, ht0, hv0, hd0, ⟨g1, t1, cs1, f1, p1, q1, hg1, ht1, hv1, hd1, ⟨g2, t2, cs2, f2, p2, q2, hg2, ht2, hv2, hd2, ⟨g3, t3, cs3, f3, p3, q3, hg3, ht3, hv3, hd3, ⟨g4, t4, cs4, f4, p4, q4, hg4, ht4, hv4, hd4, _, _⟩, _⟩, _⟩, _⟩, _⟩, _, _⟩ := h
  obtain rfl := Option.some.inj (gKeys.symm.trans hg1)
  obtain rfl := Option.some.inj (gSigns.symm.trans hg2)
  obtain rfl := Option.some.inj (gAsts.symm.trans hg3)
  obtain rfl := Option.some.inj (gShows.symm.trans hg4)
  obtain rfl := Option.some.inj (tKeys.symm.trans ht1)
  obtain rfl := Option.some.inj (tSigns.symm.trans ht2)
  obtain rfl := Option.some.inj (tAsts.symm.trans ht3)
  obtain rfl := Option.some.inj (tShows.symm.trans ht4)
  have k1 := cells_of_strs (zs := keysL) Tryz.underlying186 Tryz.underlying9 cStr cKeys hd1
  have k2 := cells_of_strs (zs := signsL) Tryz.underlying195 Tryz.underlying9 cStr cSigns hd2
  have k3 := cells_of_strs (zs := signs8) Tryz.underlying81 Tryz.underlying9 cStr cAsts hd3
  have k4 := cells_of_strs (zs := signs9) Tryz.underlying81 Tryz.underlying9 cStr cAsts hd4
  refine ⟨⟨fun j v hj => ?_, fun j v hj => ?_⟩, fun j v hj => ?_, fun j l hj => ?_⟩
  · rw [World.var?_cell hg1 hv1 j, ← Array.getElem?_toList, k1]; exact hj
  · rw [World.var?_cell hg2 hv2 j, ← Array.getElem?_toList, k2]; exact hj
  · rw [World.var?_cell hg3 hv3 j, ← Array.getElem?_toList, k3]; exact hj
  · rw [World.var?_cell hg4 hv4 j, ← Array.getElem?_toList, k4, List.getElem?_map, hj]; rfl

theorem laidOut : laidOutB Tryz.prog = true := by kernel_rfl
theorem own : ownKnob Tryz.prog.godebug = none := by kernel_rfl
set_option maxRecDepth 100000 in
theorem start_shaped (os : Os) (args : Array Value) : ((World.laidAll Tryz.prog os laidL).forCall (fun _ _ => 0) ⟨#[], args, []⟩).Shaped Tryz.prog := World.shaped_of_ZipB (by kernel_rfl) (by kernel_rfl)
set_option maxRecDepth 100000 in
theorem start_met (os : Os) (args : Array Value) : laidMetH Tryz.prog laidL ((World.laidAll Tryz.prog os laidL).forCall (fun _ _ => 0) ⟨#[], args, []⟩).memory := by
  rw [MakeChecks.laidMetH_plain _ _ _ (by kernel_rfl)]
  exact laidMet_laidAll _ (by kernel_rfl) (by kernel_rfl)
open Go.RowKit

section
variable (b bb : Nat) (T : List Tok) (D n : Nat)

set_option maxRecDepth 100000 in
set_option maxHeartbeats 4000000 in
theorem formula_p (hC : TokC T) (hD : D ≤ 200) (hn : n ≤ D) (hA : SubI b bb T D n (fun _ => True) 96 (orT T D n (NT T D n))) (hB : n < D → SubI b bb T D (n + 1) (fun _ => True) 69 (formulaT T D (n + 1) (NT T D (n + 1)))) : SubI b bb T D n (fun _ => True) 69 (formulaT T D n (NT T D n)) := by
  intro s N vn A w hP h
  have HCC := Lib.hid hC; have HPP := Lib.hid hP
  have HSA := Lib.hid hA
  have HNB := Lib.hid (nested_formula b bb T D n hD hn (fun _ => True) _ hB)
  have HEQ := Lib.hid (fun s hk => form_eqv T hn (sub := formulaT T D (n + 1) (NT T D (n + 1))) (nt := NT T D n) (fun hlt => by rw [NT_succ T hlt]) s hk)
  have HK := Lib.hid (KX.start h)
  have HFEW := Lib.hid h.few
  have HA := Lib.hid (OutL.nil N s)
  clear h hC hP hD hn hA hB
  go_enter Tryz.func69, Tryz.ntmps69
  go_wp2_with fail
  refine (HK.out.sub HSA.out trivial).mono ?_
  rintro e w9 ⟨v9, N9, vn9, rfl, hk9, ho9, hd9⟩
  have HK := Lib.hid hk9; have HO := Lib.hid ho9; have HA := Lib.hid ho9.out; have HDD := Lib.hid hd9
  clear hk9 ho9 hd9
  go_wp2_with fail
  refine (KX.at (ws := [[61, 62]]) (HK.out.strs1 _ _) (List.mem_cons_self ..) (by decide)).mono ?_
  rintro e w1 ⟨rfl, hk⟩
  have HK := Lib.hid (hk.nils)
  obtain ⟨b1, hb⟩ : ∃ b1, isQ T [61, 62] (orT T D n (NT T D n) s).2 = b1 := ⟨_, rfl⟩
  rw [at_one HCC.out (by decide), hb]
  have HV1 := Lib.hid hb
  clear hk hb
  cases b1
  · have HQ := Lib.hid (KX.fin HO.out HK.out HDD.out (r' := formulaT T D n (NT T D n) s) (by rw [show formulaT T D n (NT T D n) s = orT T D n (NT T D n) s from if_neg (by rw [HV1.out]; decide)]; exact Eqv.refl _))
    go_wp2_with fail
    go_ret
    exact HQ.out
  · skip
    have HLI := Lib.hid (is_kind HV1.out)
    go_wp2_with fail
    have HK := Lib.hid HK.out.drew
    go_region_held3 (fun w' => w'.cell? ⟨b, 0, none⟩ = some (.pointer (some ⟨bb, 0, none⟩))) (first | with_reducible exact HK.out.cell | with_reducible exact (HK.out.alloc _).cell | with_reducible exact ((HK.out.alloc _).alloc _).cell | with_reducible exact (((HK.out.alloc _).alloc _).alloc _).cell)
      (first
        | (go_at_call 98; (first | with_reducible refine (HK.out.take HCC.out HLI.out.1 HLI.out.2).mono ?_ | with_reducible refine ((HK.out.strs1 _ _).take HCC.out HLI.out.1 HLI.out.2).mono ?_ | with_reducible refine (((HK.out.strs1 _ _).strs1 _ _).take HCC.out HLI.out.1 HLI.out.2).mono ?_); rintro e w9 ⟨v9, N9, vn9, rfl, hk9, ho9, hd9⟩; have HK := Lib.hid hk9; have HD := Lib.hid (OutD.app HA.out ho9 hd9); have HA := Lib.hid HD.out.out; clear hk9 ho9 hd9)
        | (go_at_call 68; (first | with_reducible refine (HK.out.call (fun A h => HNB.out _ _ _ A _ trivial h)).mono ?_ | with_reducible refine ((HK.out.strs1 _ _).call (fun A h => HNB.out _ _ _ A _ trivial h)).mono ?_ | with_reducible refine (((HK.out.strs1 _ _).strs1 _ _).call (fun A h => HNB.out _ _ _ A _ trivial h)).mono ?_); rintro e w9 ⟨v9, N9, vn9, rfl, hk9, ho9, hd9⟩; have HK := Lib.hid hk9; have HD := Lib.hid (OutD.app HA.out ho9 hd9); have HA := Lib.hid HD.out.out; clear hk9 ho9 hd9)
        | (go_at_call 67; have HDW := Lib.hid (HD.out.weak (j := 0 + 1) (by decide)); refine (KX.node (k := 0) (kind := 10) (HK.out.ints3 _ _ _ ) ?_ HCC.out.len HDW.out ?_ HFEW.out ?_).mono ?_; exact List.mem_cons_self ..; rfl; simp; rintro e w9 ⟨v9, N9, vn9, rfl, hk9, ho9⟩; have HK := Lib.hid hk9; have HZ := Lib.hid ho9; clear hk9 ho9))
    all_goals
      have HQ := Lib.hid (KX.fin HZ.out HK.out (fun he => absurd HLI.out.2 (HDD.out he)) (r' := (formulaT T D n (NT T D n)) s) (HEQ.out _ HV1.out))
      go_wp2_with fail
      go_ret
      exact HQ.out
end
end Go.Proofs.YtijpelkjeejjfaaGreatDoor
namespace Go.Proofs.YtijpelkjeejjfaaGreatDoor
open Go.RowKit

/-- The eight cells, each by its kind. -/
theorem EAt.form {F : Nat → Prop} {w : World} {x : Ex} {q : List Value} (h : EAt F w x q) : ∃ (op ps : Int) (a b : ByteArray) (s y : Bool) (p p' : Option Addr) (n c n' c' : Nat), q = [.int .i64 op, .string a, .string b, .bool s, .slice p n c, .bool y, .slice p' n' c', .int .i64 ps] := by
  cases x with
  | mk op nm md nu ys ks ps =>
    simp only [EAt] at h
    obtain ⟨s, pw, nw, cw, pk, ck, rows, rfl, -⟩ := h
    exact ⟨_, _, _, _, _, _, _, _, _, _, _, _, rfl⟩

end Go.Proofs.YtijpelkjeejjfaaGreatDoor
