/- Lemmas. -/
import Derived.LaidMore
import Derived.Lay
import Derived.Test.YtddccnpohpaofaaGreatDoorTie
import Derived.Test.YtddccnpohpaofaaGreatDoorP38
import Derived.Test.YtddccnpohpaofaaGreatDoorP47
import Derived.Test.YtddccnpohpaofaaGreatDoorP49
set_option linter.unusedVariables false
set_option linter.unusedSimpArgs false
namespace Go.Proofs.YtddccnpohpaofaaGreatDoor
open Go.ChangeShapes Go.WideShapes Go.ChangeAt Go.RowKit Go.ChangeMaps

def laidL : List (String × DataW Unit) := [("math/bits.deBruijn32tab", Rows.laid_math_bits_deBruijn32tab), ("math/bits.deBruijn64tab", Rows.laid_math_bits_deBruijn64tab), ("internal/strconv.uint64pow10", Rows.laid_internal_strconv_uint64pow10), ("unicode/utf8.acceptRanges", Rows.laid_unicode_utf8_acceptRanges), ("touchstone/lex.keys", Rows.laid_touchstone_lex_keys), ("touchstone/lex.signs", Rows.laid_touchstone_lex_signs), ("touchstone/ast.signs", Rows.laid_touchstone_ast_signs), ("touchstone/show.signs", Rows.laid_touchstone_show_signs), ("unicode/utf8.first", Rows.laid_unicode_utf8_first)]

/-- An array of strings that reads as these texts holds them, cell for cell. -/
theorem cells_of_strs {H : Type} {enc : TypeId × Value → H} {P : Program} {w : World} {base : Nat} {sp : Nat → Bool} {held : Bool} {fuel : Nat} {t e : TypeId} {n : Nat} {cs : List Value} {zs : List (List UInt8)} {p : List MemPlace}
    (ht : P.underlying t = some (.array n e)) (he : P.underlying e = some .string) (hce : P.cellsOf e = 1) (hct : P.cellsOf t = n)
    (h : DataW.trod enc P w base sp held fuel t cs = some (.agg (zs.map fun z => .lit (.string z)), p)) : cs = zs.map strV := by
  obtain ⟨xs, m, rfl, hx, hl, hxl, hall⟩ := DataW.trod_array ht h
  simp only [Prod.mk.injEq, DataW.agg.injEq] at hx
  have hzl : zs.length = n := by
    have := congrArg List.length hx.1
    simp at this; omega
  apply List.ext_getElem?
  intro i
  by_cases hi : i < n
  · have h1 := hall i hi
    rw [hce, Nat.mul_one] at h1
    have hxi : xs[i]? = some xs[i] := List.getElem?_eq_getElem (by omega)
    rw [hxi] at h1
    obtain ⟨s, hc, hs, _⟩ := DataW.trod_string he h1
    have h2 : cs[i]? = some (.string s) := by
      have := congrArg (·[0]?) hc
      simpa [List.getElem?_take, List.getElem?_drop] using this
    have h3 : (xs.map (·.1))[i]? = some (DataW.lit (.string s.data.toList) : DataW H) := by simp [hxi, hs]
    rw [← hx.1] at h3
    simp only [List.getElem?_map, Option.map_eq_some_iff, DataW.lit.injEq, Lit.string.injEq] at h3
    obtain ⟨z, hz, hzs⟩ := h3
    rw [h2, List.getElem?_map, hz, hzs]
    rfl
  · rw [List.getElem?_eq_none (by omega), List.getElem?_eq_none (by simp; omega)]

theorem tKeys : (Tryz.prog.globals[1]?).map (·.type) = some 180 := by kernel_rfl
theorem tSigns : (Tryz.prog.globals[2]?).map (·.type) = some 181 := by kernel_rfl
theorem gAsts : Tryz.prog.globalNamed "touchstone/ast.signs" = some 0 := by kernel_rfl
theorem gShows : Tryz.prog.globalNamed "touchstone/show.signs" = some 5 := by kernel_rfl
theorem tShows : (Tryz.prog.globals[5]?).map (·.type) = some 170 := by kernel_rfl
theorem tAsts : (Tryz.prog.globals[0]?).map (·.type) = some 170 := by kernel_rfl
theorem cAsts : Tryz.prog.cellsOf 170 = 14 := by kernel_rfl
theorem cStr : Tryz.prog.cellsOf 9 = 1 := by kernel_rfl
theorem cKeys : Tryz.prog.cellsOf 180 = 15 := by kernel_rfl
theorem cSigns : Tryz.prog.cellsOf 181 = 22 := by kernel_rfl

theorem of_laid {W : World} (h : laidMetH Tryz.prog laidL W) : LaidE W ∧ LaidS W ∧ LaidW W := by
  rw [MakeChecks.laidMetH_plain _ _ _ (by kernel_rfl)] at h
  obtain ⟨ps, ⟨g0, t0, cs0, f0, p0, q0, hg0, ht0, hv0, hd0, ⟨g1, t1, cs1, f1, p1, q1, hg1, ht1, hv1, hd1, ⟨g2, t2, cs2, f2, p2, q2, hg2, ht2, hv2, hd2, ⟨g3, t3, cs3, f3, p3, q3, hg3, ht3, hv3, hd3, ⟨g4, t4, cs4, f4, p4, q4, hg4, ht4, hv4, hd4, ⟨g5, t5, cs5, f5, p5, q5, hg5, ht5, hv5, hd5, ⟨g6, t6, cs6, f6, p6, q6, hg6, ht6, hv6, hd6, ⟨g7, t7, cs7, f7, p7, q7, hg7, ht7, hv7, hd7, _, _⟩, _⟩, _⟩, _⟩, _⟩, _⟩, _⟩, _⟩, _, _⟩ := h
  obtain rfl := Option.some.inj (gKeys.symm.trans hg4)
  obtain rfl := Option.some.inj (gSigns.symm.trans hg5)
  obtain rfl := Option.some.inj (gAsts.symm.trans hg6)
  obtain rfl := Option.some.inj (gShows.symm.trans hg7)
  obtain rfl := Option.some.inj (tKeys.symm.trans ht4)
  obtain rfl := Option.some.inj (tSigns.symm.trans ht5)
  obtain rfl := Option.some.inj (tAsts.symm.trans ht6)
  obtain rfl := Option.some.inj (tShows.symm.trans ht7)
  have k1 := cells_of_strs (zs := keysL) Tryz.underlying180 Tryz.underlying9 cStr cKeys hd4
  have k2 := cells_of_strs (zs := signsL) Tryz.underlying181 Tryz.underlying9 cStr cSigns hd5
  have k3 := cells_of_strs (zs := signs8) Tryz.underlying170 Tryz.underlying9 cStr cAsts hd6
  have k4 := cells_of_strs (zs := signs9) Tryz.underlying170 Tryz.underlying9 cStr cAsts hd7
  refine ⟨⟨fun j v hj => ?_, fun j v hj => ?_⟩, fun j v hj => ?_, fun j l hj => ?_⟩
  · rw [World.var?_cell hg4 hv4 j, ← Array.getElem?_toList, k1]; exact hj
  · rw [World.var?_cell hg5 hv5 j, ← Array.getElem?_toList, k2]; exact hj
  · rw [World.var?_cell hg6 hv6 j, ← Array.getElem?_toList, k3]; exact hj
  · rw [World.var?_cell hg7 hv7 j, ← Array.getElem?_toList, k4, List.getElem?_map, hj]; rfl

theorem laidOut : laidOutB Tryz.prog = true := by kernel_rfl
theorem own : ownKnob Tryz.prog.godebug = none := by kernel_rfl
set_option maxRecDepth 100000 in
theorem start_shaped (os : Os) (args : Array Value) : ((World.laidAll Tryz.prog os laidL).forCall (fun _ _ => 0) ⟨#[], args, []⟩).Shaped Tryz.prog := World.shaped_of_ZipB (by kernel_rfl) (by kernel_rfl)
set_option maxRecDepth 100000 in
theorem start_met (os : Os) (args : Array Value) : laidMetH Tryz.prog laidL ((World.laidAll Tryz.prog os laidL).forCall (fun _ _ => 0) ⟨#[], args, []⟩).memory := by
  rw [MakeChecks.laidMetH_plain _ _ _ (by kernel_rfl)]
  exact laidMet_laidAll _ (by kernel_rfl) (by kernel_rfl)

theorem round_S {x : Sx} (h : Fml x) (hs : sizS x ≤ 90) (hl : (txS x).length ≤ 20000) : (ansQ (txS x) 200 true).2.1 = 0 ∧ npE (formE (txS x) 200) = npS x := by
  obtain ⟨L, e, hall, h5, hmap⟩ := lex_S h
  have hlen : L.length = (tkS x).length := by have := congrArg List.length hmap; simpa using this
  have hm : MtK (L ++ [e]) 0 (tkS x) := fun j t hj => by
    have h1 : (L.map (fun k => (k.kind, k.text)))[j]? = some (t.k, t.t) := by rw [hmap, List.getElem?_map, hj]; rfl
    rw [List.getElem?_map] at h1
    obtain ⟨k, hk, hk2⟩ := Option.map_eq_some_iff.1 h1
    injection hk2 with h2 h3
    exact ⟨k, by rw [Nat.zero_add, List.getElem?_append_left (List.getElem?_eq_some_iff.1 hk).1]; exact hk, h2, h3⟩
  have hend : (L ++ [e])[0 + (tkS x).length]? = some e := by rw [Nat.zero_add, ← hlen]; simp
  have ho : opl (L ++ [e]) (0 + (tkS x).length) = 0 := by unfold opl; rw [hend]; simp [oplK, h5]
  obtain ⟨t, s1, s2, s3⟩ := par_S (L ++ [e]) 200 90 x hs h 199 0 (by omega) (by omega) hm 0 (Nat.zero_le _) (by rw [ho]; decide)
  have s1 : (nxT (L ++ [e]) 200 200).expr (sI true 0) = ([t], sI true (0 + (tkS x).length)) := s1
  have hT : treeT (L ++ [e]) 200 true = ([t, .lf (0 + (tkS x).length)], sI true (0 + (tkS x).length)) := by
    unfold treeT
    rw [if_pos rfl]
    unfold aloneT
    have e0 : setIn true startQ = sI true 0 := rfl
    rw [e0, s1]
    have hk : kindT (L ++ [e]) 5 (sI true (0 + (tkS x).length)) = ([.lf (0 + (tkS x).length)], sI true (0 + (tkS x).length)) := by
      unfold kindT
      rw [tokQ_at hend, if_pos ⟨rfl, h5⟩]
      unfold leafT leafQ
      rw [tokQ_at hend, if_pos h5]
    simp only [hk]
    rfl
  have hq : (treeQ (L ++ [e]) 200 true).2 = sI true (0 + (tkS x).length) := by rw [(tree_m _ _ _).1, hT]
  constructor
  · unfold ansQ
    rw [if_neg (by omega)]
    unfold parseQ
    rw [if_neg (by omega), hall]
    simp only [ne_eq, not_true, if_false]
    show (resQ (treeQ (L ++ [e]) 200 true)).2.1 = 0
    unfold resQ
    rw [hq]
    rfl
  · unfold formE
    rw [hall]
    show npE ((axTs (L ++ [e]) (treeT (L ++ [e]) 200 true).1).headD nilE) = npS x
    rw [hT]
    cases t with
    | lf i => cases s2
    | nd k l => exact s3

theorem V_dig : ∀ (n N : Nat), N < 10 ^ n → Mx.V 10 (Zd.dig N) 0 n = N
  | 0, N, h => by simp at h; subst h; rfl
  | n + 1, N, h => by
    rw [Mx.V_front]
    have e : Mx.V 10 (Zd.dig N) (0 + 1) n = Mx.V 10 (Zd.dig (N / 10)) 0 n := Mx.V_congr (fun j _ => by
      unfold Zd.dig
      rw [Nat.div_div_eq_div_mul, show 0 + 1 + j = (0 + j) + 1 by omega, Nat.pow_succ, Nat.mul_comm])
    rw [e, V_dig n (N / 10) (by rw [Nat.pow_succ] at h; omega)]
    unfold Zd.dig
    simp only [Nat.pow_zero, Nat.div_one]
    omega
theorem val_dec (N : Nat) : Zd.valL (Zd.decL N) = N := by
  have hlen : (Zd.decL N).length = Zd.nd N := by simp [Zd.decL]
  rw [Zd.valL_all, hlen]
  refine Eq.trans (Mx.V_congr (g := Zd.dig N) (p := 0) (fun j hj => ?_)) (V_dig (Zd.nd N) N (Zd.nd_lt N))
  rw [Nat.zero_add, Zd.dgt_get (by omega)]
  have h10 : Zd.dig N j < 10 := Nat.mod_lt _ (by omega)
  have : (Zd.decL N)[Zd.nd N - 1 - j]'(by omega) = UInt8.ofNat (48 + Zd.dig N (Zd.nd N - 1 - (Zd.nd N - 1 - j))) := by simp [Zd.decL]
  rw [this, show Zd.nd N - 1 - (Zd.nd N - 1 - j) = j by omega]
  have h8 : ∀ d, d < 10 → (UInt8.ofNat (48 + d)).toNat - 48 = d := by decide +kernel
  exact h8 _ h10
theorem parse_txt {nu : Int} (h0 : 0 ≤ nu) (hl : (Zd.txtL nu).length ≤ 60) : Zd.parseV (Zd.txtL nu) = nu := by
  have hn := num_txt h0 hl
  have hE := (num_parse hn).1
  unfold Zd.parseV
  rw [if_pos hE]
  obtain ⟨b, r, hb, h45⟩ := txt_head nu
  have hne : b.toNat ≠ 45 := fun e => by
    have : b = 45 := UInt8.toNat_inj.1 e
    have := h45.1 this
    omega
  have hm := Zd.md_other (t := r) hne
  rw [hb, hm.1, hm.2, ← hb]
  obtain ⟨N, rfl⟩ := Int.eq_ofNat_of_zero_le h0
  by_cases hz : N = 0
  · subst hz; rfl
  · have ht : Zd.txtL (N : Int) = Zd.decL N := by unfold Zd.txtL; rw [if_neg (by omega), if_neg (by omega)]; rfl
    rw [ht, val_dec]; rfl
open Go.RowKit

theorem tellD (F : Nat → Prop) (B : Nat) (hF : ∀ k, F k → k < B) : Tell stD 24 B B F (PD B B) LD allS where
  below := hF
  box := Nat.le_refl _
  tell := fun s f w hp _ hx hd hq hl => dump1_c F B B hF s f w hp hx hd hq hl
  mono := fun s x d h => by unfold LD stD at h; unfold LD; rw [List.length_append] at h; omega
  kids := fun x k h hk => allS_kid h hk
  grown := fun s w w' h hg => h.gb hg
  placed := fun s w w' g cs h hg hc hne => ⟨bld_keptS h.1 hg hc (by decide) hne, Nat.le_trans h.2 hg.size⟩

/-- An expression laid into a box of its own. -/
theorem EAt.box {F : Nat → Prop} {w : World} {x : Ex} {q : List Value} (h : EAt F w x q) : PAtE (fun k => k ≤ w.heap.size) (w.alloc (.cells q.toArray 30)) w.heap.size 0 x :=
  ⟨Nat.le_refl _, by simp, q, h.len, fun i v hi => by
    rw [Nat.zero_add]; unfold World.cell?; rw [show (⟨w.heap.size, i, none⟩ : Addr).block = w.heap.size from rfl, heap_alloc_new w]; simpa using hi,
   (h.bound.mono (fun k hk => Nat.le_of_lt hk.2)).kept (World.grownBy_alloc w _ none)⟩

set_option maxRecDepth 100000 in
set_option maxHeartbeats 16000000 in
theorem Dump_c2 (F : Nat → Prop) (x : Ex) (q : List Value) (w : World) (hx : EAt F w x q) (hs : allS x) (hc : cntE x ≤ 1000000) (hD : (dmpE x).length ≤ 1000000) :
    Calls Tryz.prog 9 #[.agg q.toArray] w (StrGb (dmpE x) w) := by
  have hb := hx.box
  have HS := Lib.hid hs; have HC := Lib.hid hc; have HD := Lib.hid hD
  obtain ⟨v0, v1, v2, v3, v4, v5, v6, v7, rfl⟩ : ∃ v0 v1 v2 v3 v4 v5 v6 v7, q = [v0, v1, v2, v3, v4, v5, v6, v7] := by
    have := hx.len
    match q, this with
    | [v0, v1, v2, v3, v4, v5, v6, v7], _ => exact ⟨_, _, _, _, _, _, _, _, rfl⟩
  have hA := World.grownBy_alloc w (.cells #[v0, v1, v2, v3, v4, v5, v6, v7] 30) none
  clear hx hs hc hD
  go_enter Tryz.func9, Tryz.ntmps9
  go_wp2_with fail
  change PAtE _ (w.alloc (.cells #[v0, v1, v2, v3, v4, v5, v6, v7] 30)) _ _ _ at hb
  obtain ⟨b, hbb⟩ : ∃ b, w.heap.size = b := ⟨_, rfl⟩
  have hsz : (w.alloc (.cells #[v0, v1, v2, v3, v4, v5, v6, v7] 30)).heap.size = b + 1 := by simp [hbb]
  generalize (w.alloc (.cells #[v0, v1, v2, v3, v4, v5, v6, v7] 30)) = WA at *
  have hbl := bld_new WA (b + 1) (by omega)
  have hgB := World.grownBy_alloc WA (.cells #[.pointer none, .slice none 0 0] 75) none
  have hsB : (WA.alloc (.cells #[.pointer none, .slice none 0 0] 75)).heap.size = b + 2 := by simp [hsz]
  generalize (WA.alloc (.cells #[.pointer none, .slice none 0 0] 75)) = WB at *
  rw [hsz] at hbl
  rw [hbb] at hb ⊢
  have hb2 := (hb.same (S := fun _ => False) (Fr2.none hgB) (fun _ _ h => h))
  have HW := Lib.hid (walkB_c _ rfl stD (b + 1) (b + 1) _ (PD (b + 1) (b + 1)) LD allS (tellD (fun k => k ≤ b) (b + 1) (fun k hk => by omega)) x b 0 [] WB ⟨hbl, by omega⟩ hb2 (by omega) HC.out (by rw [runE_D]; exact HD.out) HS.out)
  have HG : Hid (w.grownBy WB none) := Lib.hid (gb_trans hA hgB)
  have HB1 : Hid (w.heap.size = b) := Lib.hid hbb
  have HZB : Hid (WB.heap.size = b + 2) := Lib.hid hsB
  clear hb hb2 hbl hsB hgB hsz hA hbb
  refine HW.out.mono ?_
  rintro e W3 ⟨rfl, hp3, hbe3⟩
  rw [runE_D, List.nil_append] at hp3
  have HSTR := Lib.hid (Tryz.Builder_String_any_k (b + 1) (b + 1) _ W3 (Lib.IsBuilderF.of hp3.1) hp3.2)
  have HBE3 := Lib.hid hbe3
  clear hp3 hbe3 HW
  go_wp2_with fail
  refine HSTR.out.mono ?_
  rintro e w7 ⟨rfl, -, hbe7, -⟩
  have HG7 : Hid (w.grownBy w7 none) := Lib.hid (below_gb (Below.mono (Below.trans2 (Below.gb HG.out (by rw [HB1.out]; exact Nat.le_refl _)) ((Below.trans2 HBE3.out hbe7).mono (by omega))) (by rw [HB1.out]; exact Nat.le_refl _)))
  clear hbe7
  go_wp2_with fail
  go_ret
  exact ⟨⟨_, rfl, rfl⟩, HG7.out⟩
end Go.Proofs.YtddccnpohpaofaaGreatDoor
