/- Lemmas. -/
import Derived.Test.YtddccnpohpaofaaGreatDoorP22
import Derived.Test.YtddccnpohpaofaaGreatDoorP38
set_option linter.unusedVariables false
set_option linter.unusedSimpArgs false
namespace Go.Proofs.YtddccnpohpaofaaGreatDoor
open Go.RowKit

theorem three0 (w : World) (A : Obj) : ∃ (W : World) (b0 : Nat), W = w.alloc A ∧ w.heap.size = b0 ∧ W.heap[b0]? = some A ∧ w.grownBy W none :=
  ⟨_, _, rfl, rfl, heap_alloc_new w A, World.grownBy_alloc w A none⟩
/-- The tree of the text, made anew, is this one. -/
def TGood (T : List TokI) (N : List Nd) (l : List UInt8) (f : Bool) : Prop := (ansQ l 200 f).2.1 = 0 ∧ T = (allE l).1.map toI ∧ N = nodesQ l 200 f
def RdrAny (T : List TokI) (N : List Nd) (l : List UInt8) (f : Bool) (w : World) (e : Ending) (w' : World) : Prop :=
  w.grownBy w' none ∧ ((TGood T N l f ∧ ∃ pt ct pn cn K, e = .returned (.tuple #[.agg #[.slice pt (allE l).1.length ct, .slice pn (nodesQ l 200 f).length cn], .int .i64 0]) ∧ TAt w' pt (allE l).1 ∧ NodesAt w' pn (nodesQ l 200 f) K ∧ (nodesQ l 200 f).length ≤ 2 * (allE l).1.length ∧ FarK (nodesQ l 200 f) K (fun k => w.heap.size ≤ k)) ∨
    (¬ TGood T N l f ∧ e = .returned (.tuple #[.agg #[.slice none 0 0, .slice none 0 0], .int .i64 10])))
theorem toks_map {w : World} {p : Option Addr} {T : List Tok} (h : TAt w p T) : ToksAt w p (T.map toI) := by
  rcases h with h | ⟨g, off, rfl, hl, hc⟩
  · subst h; exact .inl rfl
  · refine .inr ⟨g, off, rfl, hl, fun j q hj i v hi => ?_⟩
    unfold toksV at hj
    rw [List.getElem?_map, List.getElem?_map] at hj
    cases ht : T[j]? with
    | none => rw [ht] at hj; cases hj
    | some t =>
      rw [ht] at hj
      injection hj with hj
      subst hj
      obtain ⟨h0, h1, h2, h3⟩ := hc j t ht
      match i, hi with
      | 0, hi => injection hi with hi; subst hi; exact h0
      | 1, hi => injection hi with hi; subst hi; exact h1
      | 2, hi => injection hi with hi; subst hi; exact h2
      | 3, hi => injection hi with hi; subst hi; exact h3
      | k + 4, hi => simp [tokVI, toI] at hi

set_option maxRecDepth 100000 in
set_option maxHeartbeats 16000000 in
theorem newReaderAF_c (T : List TokI) (N : List Nd) (K : Kf) (s : ByteArray) (hs : s.size ≤ 25000) (hw : wholeI T = s.data.toList) (hT : T.length ≤ 100000) (hN : N.length ≤ 150000) (hk : ∀ (i : Nat) (x : Nd), N[i]? = some x → x.kids.length ≤ 150000) (pt pn : Option Addr) (ct cn : Nat) (w : World) (hla : LaidE w) (ht : ToksAt w pt T) (hn : NodesAt w pn N K) :
    Calls Tryz.prog 19 #[.agg #[.slice pt T.length ct, .slice pn N.length cn], .func (.func 7) #[] #[]] w (RdrAny T N s.data.toList true w) := by
  have hsl : s.data.toList.length = s.size := list_len s
  have HP := Lib.hid (fun W h => Formula_p s 200 W hs h)
  have HSH := Lib.hid (fun (W : World) h => ShowI_c T pt pn ct N.length cn W (by omega) (by rw [hw]; omega) h)
  rw [hw] at HSH
  have HWE := Lib.hid hw
  have HSL : Hid (s.data.toList = s.data.toList) := Lib.hid rfl
  obtain ⟨l, hl⟩ : ∃ l, s.data.toList = l := ⟨_, rfl⟩
  rw [hl] at HP HSH hsl ⊢
  have HLS := Lib.hid hl
  have HT := Lib.hid ht; have HN := Lib.hid hn; have HLA := Lib.hid hla; have HTL := Lib.hid hT; have HNL := Lib.hid hN; have HK := Lib.hid hk; have HSS := Lib.hid hsl; have HS0 := Lib.hid hs
  clear ht hn hla hN hs hsl hl hw hk hT
  obtain ⟨m, hm⟩ : ∃ m, T.length = m := ⟨_, rfl⟩
  obtain ⟨M, hM⟩ : ∃ M, N.length = M := ⟨_, rfl⟩
  have Hm := Lib.hid hm; have HM := Lib.hid hM
  rw [hm, hM] at HSH ⊢
  clear hm hM
  go_enter Tryz.func19, Tryz.ntmps19
  go_wp2_with fail
  obtain ⟨W, b0, b1, hW, e0, e1, hB0, hB1, hgW, h01⟩ := two w (.cells #[.slice pt m ct, .slice pn M cn] 42) (.cells #[.slice none 0 0, .slice none 0 0] 66)
  have HB0 := Lib.hid hB0; have HB1 := Lib.hid hB1; have HGW := Lib.hid hgW; have HE0 := Lib.hid e0
  clear hB0 hB1 hgW
  try rw [← hW]
  try rw [e1]
  try rw [e0]
  clear e0 e1 hW
  refine (HSH.out _ (HT.out.kept HGW.out)).mono ?_
  rintro e w1 ⟨⟨y, rfl, hy⟩, hg1⟩
  have hys : y = s := ByteArray.ext (Array.toList_inj.1 (hy.trans HLS.out.symm))
  subst hys
  have HG1 := Lib.hid (gb_trans HGW.out hg1)
  have HB01 := Lib.hid (bx hg1 HB0.out); have HB11 := Lib.hid (bx hg1 HB1.out)
  clear hg1 hy HSH
  go_wp2_with fail
  refine (HP.out _ (HLA.out.kept HG1.out)).mono ?_
  rintro e w2 ⟨hg2, he⟩
  by_cases hne : (ansQ l 200 true).2.1 ≠ 0
  · rw [if_pos hne] at he
    subst he
    have HBAD : Hid (¬ TGood T N l true) := Lib.hid (fun h => hne h.1)
    unfold badV
    obtain ⟨E, hE⟩ : ∃ E, (ansQ l 200 true).2.1 = E := ⟨_, rfl⟩
    obtain ⟨P, hP⟩ : ∃ P, (ansQ l 200 true).2.2 = P := ⟨_, rfl⟩
    rw [hE] at hne
    rw [hE, hP]
    have e1 : ((E : Int) != 0) = true := bne_iff_ne.2 (by omega)
    have e1' : (E != 0) = true := bne_iff_ne.2 hne
    have e2 : ((E : Int) == 0) = false := beq_eq_false_iff_ne.2 (by omega)
    have e2' : (E == 0) = false := beq_eq_false_iff_ne.2 hne
    have HG2 := Lib.hid (gb_trans HG1.out hg2)
    have HB12 := Lib.hid (bx hg2 HB11.out)
    clear hg2 hE hP hne HP
    obtain ⟨c0, c1, c2⟩ := cells2 HB12.out
    have hb1 : b1 < w2.heap.size := hlt HB12.out
    go_wp2_with fail
    have hf : Fr2 (Self b1) w2 ((w2.setCell ⟨b1, 0, none⟩ (.slice none 0 0)).setCell ⟨b1, 1, none⟩ (.slice none 0 0)) := ((Fr2.refl _ _).setCell (mine b1) _).setCell (mine b1) _
    have hfg := Fr2.after HG2.out hf (fun j hj => by have e : j = b1 := hj; have := HE0.out; omega)
    have hc := set_cells (i := 1) (u := .slice none 0 0) (set_cells (i := 0) (u := .slice none 0 0) HB12.out)
    have hc2 := bx (gb_alloc (gb_alloc (gb_refl _ none) (.cells #[.slice none 0 0, .slice none 0 0] 42)) (.cells #[.int .i64 (E : Int), .int .i64 (P : Int)] 44)) (show ((w2.setCell ⟨b1, 0, none⟩ (.slice none 0 0)).setCell ⟨b1, 1, none⟩ (.slice none 0 0)).heap[b1]? = some (Obj.cells #[.slice none 0 0, .slice none 0 0] 66) from hc)
    obtain ⟨k0, k1, -⟩ := cells2 hc2
    refine bodyPost_ret (v := .tuple #[.agg #[.slice none 0 0, .slice none 0 0], .int .i64 10]) (by simp [results, Tryz.results19, go_sem, k0, k1]) rfl (show RdrAny T N l true w _ _ from ⟨gb_alloc (gb_alloc hfg _) _, .inr ⟨HBAD.out, rfl⟩⟩)
  · rw [if_neg hne] at he
    obtain ⟨pt', ct', pn', cn', K', rfl, hta, -, hna, hf1, hf2, hf3, hN2⟩ := he
    have hok : (ansQ l 200 true).2.1 = 0 := by omega
    have hR := read_f (l := l) (by have := HSS.out; have := HS0.out; omega) hok
    have hlen := len_all hR.lex
    have HOK := Lib.hid hok; have HN2 := Lib.hid hN2
    have hlb : (allE l).1.length ≤ 30000 := by have := HSS.out; have := HS0.out; omega
    have HSE := Lib.hid (fun (pt' pn' : Option Addr) (ct' cn' : Nat) (K' : Kf) W h1 h2 h3 h4 => sameTreeI_c T ((allE l).1.map toI) N (nodesQ l 200 true) K K' (by have := HTL.out; omega) (by rw [List.length_map]; omega) HNL.out (by omega) HK.out (kids_few (by omega)) pt pt' pn pn' ct ct' cn cn' W h1 h2 h3 h4)
    rw [List.length_map] at HSE
    obtain ⟨L, hL⟩ : ∃ L, (allE l).1 = L := ⟨_, rfl⟩
    obtain ⟨Q, hQ⟩ : ∃ Q, nodesQ l 200 true = Q := ⟨_, rfl⟩
    have HGD : Hid (TGood T N l true ↔ T = L.map toI ∧ N = Q) := Lib.hid ⟨fun h => by rw [← hL, ← hQ]; exact ⟨h.2.1, h.2.2⟩, fun h => ⟨HOK.out, by rw [hL]; exact h.1, by rw [hQ]; exact h.2⟩⟩
    have HPO : Hid (∀ e w', w.grownBy w' none ∧ ((TGood T N l true ∧ ∃ pt ct pn cn K, e = .returned (.tuple #[.agg #[.slice pt L.length ct, .slice pn Q.length cn], .int .i64 0]) ∧ TAt w' pt L ∧ NodesAt w' pn Q K ∧ Q.length ≤ 2 * L.length ∧ FarK Q K (fun k => w.heap.size ≤ k)) ∨ (¬ TGood T N l true ∧ e = .returned (.tuple #[.agg #[.slice none 0 0, .slice none 0 0], .int .i64 10]))) → RdrAny T N l true w e w') := Lib.hid (fun e w' h => by unfold RdrAny; rw [hL, hQ]; exact h)
    rw [hL] at HSE HN2 hta hf1 ⊢
    rw [hQ] at HSE HN2 hna hf2 hf3 ⊢
    have HF1 := Lib.hid hf1; have HF2 := Lib.hid hf2; have HF3 := Lib.hid hf3
    have HTA := Lib.hid hta; have HNA := Lib.hid hna
    clear hR hok hne hL hQ hlen hlb hta hna hf1 hf2 hf3 hN2
    obtain ⟨m', hm'⟩ : ∃ m', L.length = m' := ⟨_, rfl⟩
    obtain ⟨M', hM'⟩ : ∃ M', Q.length = M' := ⟨_, rfl⟩
    have Hm' := Lib.hid hm'; have HM' := Lib.hid hM'
    have HB1S : Hid (b1 < w1.heap.size) := Lib.hid (hlt HB11.out)
    rw [hm', hM'] at HSE ⊢
    rw [Hm.out, HM.out] at HSE
    have HG2 := Lib.hid (gb_trans HG1.out hg2)
    have HB02 := Lib.hid (bx hg2 HB01.out); have HB12 := Lib.hid (bx hg2 HB11.out)
    clear hg2 HP HB01 HB11 HB0 HB1 hm' hM'
    obtain ⟨a0, a1, a2⟩ := cells2 HB02.out
    have hb0 : b0 < w2.heap.size := hlt HB02.out
    go_wp2_with fail
    obtain ⟨W3, b2, b3, hW3, e2, e3, hB2, hB3, hgW3, h23⟩ := two w2 (.cells #[.slice pt' m' ct', .slice pn' M' cn'] 42) (.cells #[.int .i64 0, .int .i64 0] 44)
    have HB2 := Lib.hid hB2; have HB3 := Lib.hid hB3; have HGW3 := Lib.hid hgW3
    have hb12 : b1 < b2 := by have := hlt HB12.out; omega
    clear hB2 hB3 hgW3
    try rw [← hW3]
    try rw [e3]
    try rw [e2]
    clear e2 e3 hW3
    have HG3 := Lib.hid (gb_trans HG2.out HGW3.out)
    refine (HSE.out pt' pn' ct' cn' K' _ (HT.out.kept HG3.out) (toks_map (HTA.out.kept HGW3.out)) (HN.out.kept HG3.out) (HNA.out.kept HGW3.out)).mono ?_
    rintro e w4 ⟨hg4, b, rfl, hb⟩
    have HBB := Lib.hid hb
    have HG4 := Lib.hid (gb_trans HG3.out hg4)
    have hgg := gb_trans HGW3.out hg4
    have HTA4 := Lib.hid (HTA.out.kept hgg); have HNA4 := Lib.hid (HNA.out.kept hgg)
    have HB14 := Lib.hid (bx hgg HB12.out)
    obtain ⟨c0, c1, c2⟩ := cells2 (bx hg4 HB2.out)
    obtain ⟨d0, d1, d2⟩ := cells2 HB14.out
    have hb14 : b1 < w4.heap.size := hlt HB14.out
    clear hg4 hgg HSE hb
    cases b
    · have HBAD : Hid (¬ TGood T N l true) := Lib.hid (fun h => by have := HBB.out.2 (HGD.out.1 h); cases this)
      go_wp2_with fail
      have hf : Fr2 (Self b1) w4 ((w4.setCell ⟨b1, 0, none⟩ (.slice none 0 0)).setCell ⟨b1, 1, none⟩ (.slice none 0 0)) := ((Fr2.refl _ _).setCell (mine b1) _).setCell (mine b1) _
      have hfg := Fr2.after HG4.out hf (fun j hj => by have e : j = b1 := hj; have := HE0.out; omega)
      have hc := set_cells (i := 1) (u := .slice none 0 0) (set_cells (i := 0) (u := .slice none 0 0) HB14.out)
      obtain ⟨k0, k1, -⟩ := cells2 (show ((w4.setCell ⟨b1, 0, none⟩ (.slice none 0 0)).setCell ⟨b1, 1, none⟩ (.slice none 0 0)).heap[b1]? = some (Obj.cells #[.slice none 0 0, .slice none 0 0] 66 (0, 0)) from hc)
      refine bodyPost_ret (v := .tuple #[.agg #[.slice none 0 0, .slice none 0 0], .int .i64 10]) (by simp [results, Tryz.results19, go_sem, k0, k1]) rfl (HPO.out _ _ ⟨hfg, .inr ⟨HBAD.out, rfl⟩⟩)
    · go_wp2_with fail
      have hf : Fr2 (Self b1) w4 ((w4.setCell ⟨b1, 0, none⟩ (.slice pt' m' ct')).setCell ⟨b1, 1, none⟩ (.slice pn' M' cn')) := ((Fr2.refl _ _).setCell (mine b1) _).setCell (mine b1) _
      have hfg := Fr2.after HG4.out hf (fun j hj => by have e : j = b1 := hj; have := HE0.out; omega)
      have hc := set_cells (i := 1) (u := .slice pn' M' cn') (set_cells (i := 0) (u := .slice pt' m' ct') HB14.out)
      obtain ⟨k0, k1, -⟩ := cells2 (show ((w4.setCell ⟨b1, 0, none⟩ (.slice pt' m' ct')).setCell ⟨b1, 1, none⟩ (.slice pn' M' cn')).heap[b1]? = some (Obj.cells #[.slice pt' m' ct', .slice pn' M' cn'] 66 (0, 0)) from hc)
      have hta5 := HTA4.out.keptF hf (fun h0 a ha e => by have e : a.block = b1 := e; have h1 := HF1.out h0 a ha; have h2 := HB1S.out; omega)
      have hna5 : NodesAt _ pn' Q K' := ⟨GAt.keptB HNA4.out.1 hf (fun h0 a ha e => by have e : a.block = b1 := e; have h1 := HF2.out (fun h => h0 (by rw [h]; rfl)) a ha; have h2 := HB1S.out; omega), fun i y hy => (HNA4.out.2 i y hy).keptF hf (fun h0 a ha e => by have e : a.block = b1 := e; have h1 := HF3.out i y hy (intsV_ne h0) a ha; have h2 := HB1S.out; omega)⟩
      refine bodyPost_ret (v := .tuple #[.agg #[.slice pt' m' ct', .slice pn' M' cn'], .int .i64 0]) (by simp [results, Tryz.results19, go_sem, k0, k1]) rfl (HPO.out _ _ ⟨hfg, .inl ⟨HGD.out.2 (HBB.out.1 (by simp)), pt', ct', pn', cn', K', by rw [Hm'.out, HM'.out], hta5, hna5, HN2.out, fun i y hy h0 a ha => Nat.le_trans HG1.out.size (HF3.out i y hy h0 a ha)⟩⟩)

theorem keep8z {w2 : World} {B gg j : Nat} {v a b c d e f g h : Value} (hv : w2.cell? ⟨gg, j, none⟩ = some v) (hne : B ≠ gg) : ((((((((w2.setCell ⟨B, 0, none⟩ a).setCell ⟨B, 1, none⟩ b).setCell ⟨B, 2, none⟩ c).setCell ⟨B, 3, none⟩ d).setCell ⟨B, 4, none⟩ e).setCell ⟨B, 5, none⟩ f).setCell ⟨B, 6, none⟩ g).setCell ⟨B, 7, none⟩ h).cell? ⟨gg, j, none⟩ = some v := by
  rw [World.cell?_setCell_far _ _ _ _ hne, World.cell?_setCell_far _ _ _ _ hne, World.cell?_setCell_far _ _ _ _ hne, World.cell?_setCell_far _ _ _ _ hne, World.cell?_setCell_far _ _ _ _ hne, World.cell?_setCell_far _ _ _ _ hne, World.cell?_setCell_far _ _ _ _ hne, World.cell?_setCell_far _ _ _ _ hne]
  exact hv
def FormAny (T : List TokI) (N : List Nd) (l : List UInt8) (w : World) (e : Ending) (w' : World) : Prop :=
  w.grownBy w' none ∧ ((TGood T N l true ∧ ∃ q, e = .returned (.tuple #[.agg q.toArray, .int .i64 0]) ∧ EAt (fun k => w.heap.size ≤ k) w' (formE l 200) q) ∨ (¬ TGood T N l true ∧ e = .returned (.tuple #[.agg #[.int .i64 0, .string ⟨#[]⟩, .string ⟨#[]⟩, .bool false, .slice none 0 0, .bool false, .slice none 0 0, .int .i64 0], .int .i64 10])))

set_option maxRecDepth 100000 in
set_option maxHeartbeats 16000000 in
theorem FormulaOf_any (T : List TokI) (N : List Nd) (K : Kf) (s : ByteArray) (hs : s.size ≤ 25000) (hw : wholeI T = s.data.toList) (hT : T.length ≤ 100000) (hN : N.length ≤ 150000) (hk : ∀ (i : Nat) (x : Nd), N[i]? = some x → x.kids.length ≤ 150000) (pt pn : Option Addr) (ct cn : Nat) (w : World) (hla : LaidE w) (hls : LaidS w) (ht : ToksAt w pt T) (hn : NodesAt w pn N K) :
    Calls Tryz.prog 8 #[.agg #[.slice pt T.length ct, .slice pn N.length cn]] w (FormAny T N s.data.toList w) := by
  have hsl : s.data.toList.length = s.size := list_len s
  have HNR := Lib.hid (fun W h1 h2 h3 => newReaderAF_c T N K s hs hw hT hN hk pt pn ct cn W h1 h2 h3)
  obtain ⟨l, hl⟩ : ∃ l, s.data.toList = l := ⟨_, rfl⟩
  rw [hl] at HNR hsl ⊢
  have HSL : Hid (l.length ≤ 25000) := Lib.hid (by omega)
  have HT := Lib.hid ht; have HN := Lib.hid hn; have HLA := Lib.hid hla; have HLS := Lib.hid hls
  clear ht hn hla hls hN hs hsl hl hw hk hT
  obtain ⟨m, hm⟩ : ∃ m, T.length = m := ⟨_, rfl⟩
  obtain ⟨M, hM⟩ : ∃ M, N.length = M := ⟨_, rfl⟩
  rw [hm, hM] at HNR ⊢
  clear hm hM
  go_enter Tryz.func8, Tryz.ntmps8
  go_wp2_with fail
  obtain ⟨W, b0, b1, hW, e0, e1, hB0, hB1, hgW, h01⟩ := two w (.cells #[.slice pt m ct, .slice pn M cn] 42) (.cells #[.int .i64 0, .string ⟨#[]⟩, .string ⟨#[]⟩, .bool false, .slice none 0 0, .bool false, .slice none 0 0, .int .i64 0] 30)
  have HB1 := Lib.hid hB1; have HGW := Lib.hid hgW; have HE0 := Lib.hid e0
  clear hB0 hB1 hgW
  try rw [← hW]
  try rw [e1]
  try rw [e0]
  clear e0 e1 hW
  refine (HNR.out _ (HLA.out.kept HGW.out) (HT.out.kept HGW.out) (HN.out.kept HGW.out)).mono ?_
  rintro e w1 ⟨hg1, he⟩
  have HG1 := Lib.hid (gb_trans HGW.out hg1)
  have HB11 := Lib.hid (bx hg1 HB1.out)
  clear hg1 HNR HT HN
  rcases he with ⟨hgd, pt', ct', pn', cn', K', rfl, hta, hna, hN2, hfk⟩ | ⟨hbd, rfl⟩
  · have HGD := Lib.hid hgd
    have hR := read_f (l := l) (by have := HSL.out; omega) hgd.1
    have hlen := len_all hR.lex
    obtain ⟨t, ks, k0, hx, hk0, hge, hax, hsz⟩ := form_root hR
    have hl25 := HSL.out
    have HFK := Lib.hid hfk
    have HB1W : Hid (b1 < W.heap.size) := Lib.hid (hlt HB1.out)
    clear hfk
    have HTA := Lib.hid hta; have HNA := Lib.hid hna
    have HPO : Hid (∀ q w', w.grownBy w' none → EAt (fun k => w.heap.size ≤ k) w' (axT (allE l).1 t) q → FormAny T N l w (.returned (.tuple #[.agg q.toArray, .int .i64 0])) w') := Lib.hid (fun q w' h1 h2 => ⟨h1, .inl ⟨HGD.out, q, rfl, by rw [← hax]; exact h2⟩⟩)
    obtain ⟨T', hT'⟩ : ∃ T', (allE l).1 = T' := ⟨_, rfl⟩
    obtain ⟨N', hNN⟩ : ∃ N', nodesQ l 200 true = N' := ⟨_, rfl⟩
    rw [hT'] at HTA hlen hge hN2 HPO ⊢
    rw [hNN] at HNA hx hge hN2 hsz HFK ⊢
    have HEX := Lib.hid (fun (pt pn : Option Addr) (ct cn : Nat) (K : Kf) W h1 h2 h3 => expr_c (T := T') (N := N') (K := K) (by omega) (by omega) pt pn ct cn N'.length t (k0 : Int) W (by omega) hsz hge h1 h2 h3)
    have HKD := Lib.hid (fun (pt pn : Option Addr) (mt ct cn : Nat) (K : Kf) W h => kids_r (K := K) (by omega) hx pt pn mt ct cn W h)
    have HRT := Lib.hid (fun (pt pn : Option Addr) (mt ct cn : Nat) W => Root_c pt pn mt ct N'.length cn (by have := (List.getElem?_eq_some_iff.1 hx).1; omega) (by omega) W)
    have HKV : Hid (∀ (pn : Option Addr) (K : Kf) W, NodesAt W pn N' K → VAt W (K (N'.length - 1)).1 (intsV ks)) := Lib.hid (fun pn K W h => h.2 _ _ hx)
    have HK0 := Lib.hid hk0; have HX := Lib.hid hx
    have HFR : Hid (∀ (a : Addr), (K' (N'.length - 1)).1 = some a → W.heap.size ≤ a.block) := Lib.hid (fun a ha => HFK.out _ _ hx (fun e => by have e : ks = [] := e; rw [e] at hk0; simp at hk0) a ha)
    have hkl : ks.length ≤ 150000 := by
      have := kids_few (l := l) (D := 200) (f := true) (by rw [hNN]; omega) _ _ (by rw [hNN]; exact hx)
      exact this
    have hkp : 0 < ks.length := (List.getElem?_eq_some_iff.1 hk0).1
    clear hta hna hR hlen hN2 hx hge hsz hk0 hT' hNN hax hgd hl25
    obtain ⟨m', hm⟩ : ∃ m, T'.length = m := ⟨_, rfl⟩
    obtain ⟨M', hM⟩ : ∃ M, N'.length = M := ⟨_, rfl⟩
    obtain ⟨L, hL⟩ : ∃ L, ks.length = L := ⟨_, rfl⟩
    rw [hm, hM] at HEX ⊢
    rw [hM] at HKD HRT
    have HKD : Hid (∀ (pt pn : Option Addr) (mt ct cn : Nat) (K : Kf) (W : World), NodesAt W pn N' K → Calls Tryz.prog 21 #[.agg #[.slice pt mt ct, .slice pn M' cn], .int .i64 ((M' - 1 : Nat) : Int)] W (ValPost (.slice (K (M' - 1)).1 L (K (M' - 1)).2) W)) := Lib.hid (by rw [← hL]; exact HKD.out)
    rw [hM] at HKV HFR
    rw [hL] at hkl hkp
    obtain ⟨R, hRR⟩ : ∃ R, M' - 1 = R := ⟨_, rfl⟩
    rw [hRR] at HKD HKV HRT HFR
    clear hm hM hL hRR HX
    have z0 : decide (0 < L) = true := decide_eq_true hkp
    have z1 : (0 : Int) < (L : Int) := by omega
    have z2 : decide ((0 : Int) < (L : Int)) = true := decide_eq_true z1
    go_wp2_with fail
    obtain ⟨W3, b2, hW3, e2, hB2, hgW3⟩ := three0 w1 (.cells #[.slice pt' m' ct', .slice pn' M' cn'] 66)
    have HB2 := Lib.hid hB2
    have hb12 : b1 < b2 := by have := hlt HB11.out; omega
    have HG3 := Lib.hid (gb_trans HG1.out hgW3)
    have HB13 := Lib.hid (bx hgW3 HB11.out)
    have HT3 := Lib.hid (HTA.out.kept hgW3); have HN3 := Lib.hid (HNA.out.kept hgW3); have HL3 := Lib.hid (HLS.out.kept HG3.out)
    have HKV3 := Lib.hid (HKV.out _ _ _ HN3.out)
    obtain ⟨g, off, hpk, hgl, ck⟩ := kid_at HKV3.out HK0.out
    have hneg : b1 ≠ g := by have h1 : W.heap.size ≤ g := HFR.out _ hpk; have h2 := HB1W.out; omega
    have HKD : Hid (∀ (W : World), NodesAt W pn' N' K' → Calls Tryz.prog 21 #[.agg #[.slice pt' m' ct', .slice pn' M' cn'], .int .i64 (R : Int)] W (ValPost (.slice (some ⟨g, off, none⟩) L (K' R).2) W)) := Lib.hid (by rw [← hpk]; exact fun W h => HKD.out pt' pn' m' ct' cn' K' W h)
    have HCK := Lib.hid ck
    have HGL := Lib.hid hgl
    rw [Nat.add_zero] at ck
    clear hB2 hgW3 hpk
    try rw [← hW3]
    try rw [e2]
    clear e2 hW3
    obtain ⟨a0, a1, a2⟩ := cells2 HB2.out
    have hb2s : b2 < W3.heap.size := hlt HB2.out
    have hb1s : b1 < W3.heap.size := hlt HB13.out
    have HRT := Lib.hid (fun W => HRT.out pt' pn' m' ct' cn' W)
    have HEX := Lib.hid (fun W h1 h2 h3 => HEX.out pt' pn' ct' cn' K' W h1 h2 h3)
    have HB23 := Lib.hid HB2.out
    clear HB2 HKV3 HKV
    go_wp2_with fail
    have hne12 : b1 ≠ b2 := by omega
    have ckw : W3.cell? ⟨g, off, none⟩ = some (.int .i64 (k0 : Int)) := ck
    go_region_held3 (fun w' => w'.cell? ⟨b2, 0, none⟩ = some (.slice pt' m' ct') ∧ w'.cell? ⟨b2, 1, none⟩ = some (.slice pn' M' cn') ∧ w'.cell? ⟨g, off, none⟩ = some (.int .i64 (k0 : Int)))
      (first | with_reducible exact ⟨a0, a1, ckw⟩ | with_reducible exact ⟨keep8z a0 hne12, keep8z a1 hne12, keep8z ckw hneg⟩ | go_keep)
      (first
        | (go_at_call 22; refine (HRT.out _).mono ?_; rintro e w4 ⟨rfl, hg4⟩; have HG4 := Lib.hid (gb_trans (show W3.grownBy _ none from (by repeat (first | with_reducible exact gb_refl _ _ | with_reducible refine gb_drew ?_))) hg4); obtain ⟨a0, a1, a2⟩ := cells2 (bx HG4.out HB23.out); have ckw := HG4.out.cell HCK.out (by simp); rw [Nat.add_zero] at ckw; have hgl4 := Nat.lt_of_lt_of_le HGL.out HG4.out.size; have hb2s := hlt (bx HG4.out HB23.out); clear hg4)
        | (go_at_call 21; refine (HKD.out _ (HN3.out.kept (gb_trans HG4.out (by repeat (first | with_reducible exact gb_refl _ _ | with_reducible refine gb_drew ?_))))).mono ?_; rintro e w5 ⟨rfl, hg5⟩; have HG5 := Lib.hid (gb_trans (gb_trans HG4.out (show w4.grownBy _ none from (by repeat (first | with_reducible exact gb_refl _ _ | with_reducible refine gb_drew ?_)))) hg5); obtain ⟨a0, a1, a2⟩ := cells2 (bx HG5.out HB23.out); have ckw := HG5.out.cell HCK.out (by simp); rw [Nat.add_zero] at ckw; have hgl5 := Nat.lt_of_lt_of_le HGL.out HG5.out.size; have hb2s := hlt (bx HG5.out HB23.out); clear hg5)
        | (go_at_call 20; refine (HEX.out _ (HT3.out.kept (gb_trans HG5.out (by repeat (first | with_reducible exact gb_refl _ _ | with_reducible refine gb_drew ?_)))) (HN3.out.kept (gb_trans HG5.out (by repeat (first | with_reducible exact gb_refl _ _ | with_reducible refine gb_drew ?_)))) (HL3.out.kept (gb_trans HG5.out (by repeat (first | with_reducible exact gb_refl _ _ | with_reducible refine gb_drew ?_))))).mono ?_; rintro e w6 ⟨hg6, q, rfl, hq⟩; obtain ⟨xo, xp, xa, xb, xs, xy, xq, xr, xn, xc, xm, xd, rfl⟩ := hq.form; have HQ := Lib.hid hq; have HG6 := Lib.hid (gb_trans (gb_trans HG5.out (show w5.grownBy _ none from (by repeat (first | with_reducible exact gb_refl _ _ | with_reducible refine gb_drew ?_)))) hg6); have hb16 := bx HG6.out HB13.out; have HB16 := Lib.hid hb16; obtain ⟨x0, x1, x2, x3, x4, x5, x6, x7, x8⟩ := cells8x hb16; have hb1s6 := hlt hb16; obtain ⟨a0, a1, a2⟩ := cells2 (bx HG6.out HB23.out); have ckw := HG6.out.cell HCK.out (by simp); rw [Nat.add_zero] at ckw; have hb2s := hlt (bx HG6.out HB23.out); have hgl6 := Nat.lt_of_lt_of_le HGL.out HG6.out.size; clear hg6 hq hb16))
    all_goals
      go_wp2_with fail
      obtain ⟨hp, hf⟩ := put8c HB16.out (.int .i64 xo) (.string xa) (.string xb) (.bool xs) (.slice xq xn xc) (.bool xy) (.slice xr xm xd) (.int .i64 xp)
      obtain ⟨f0, f1, f2, f3, f4, f5, f6, f7, -⟩ := cells8x hp
      have HFX := Lib.hid (Fr2.after (gb_trans HG3.out HG6.out) hf (fun i hi => by have e : i = b1 := hi; have := HE0.out; omega))
      have HPX : Hid (FormAny T N l w (.returned (.tuple #[.agg #[.int .i64 xo, .string xa, .string xb, .bool xs, .slice xq xn xc, .bool xy, .slice xr xm xd, .int .i64 xp], .int .i64 0])) _) := Lib.hid (HPO.out _ _ HFX.out (EAt.mono (fun k hk => by have h1 := hk.1; have h2 := (gb_trans HG3.out HG5.out).size; exact Nat.le_trans h2 h1) (EAt.same hf (fun k hk e => by have e : k = b1 := e; have h1 : w5.heap.size ≤ k := hk.1; have h2 := HG5.out.size; omega) HQ.out.bound)))
      first
        | (refine bodyPost_ret (v := .tuple #[.agg #[.int .i64 xo, .string xa, .string xb, .bool xs, .slice xq xn xc, .bool xy, .slice xr xm xd, .int .i64 xp], .int .i64 0]) (by simp [results, Tryz.results8, go_sem, f0, f1, f2, f3, f4, f5, f6, f7]) rfl HPX.out)
  · have HBD := Lib.hid hbd
    obtain ⟨c0, c1, c2, c3, c4, c5, c6, c7, c8⟩ := cells8x HB11.out
    have hb1 : b1 < w1.heap.size := hlt HB11.out
    clear hbd
    go_wp2_with fail
    obtain ⟨hp, hf⟩ := put8c HB11.out (.int .i64 0) (.string ⟨#[]⟩) (.string ⟨#[]⟩) (.bool false) (.slice none 0 0) (.bool false) (.slice none 0 0) (.int .i64 0)
    have hp2 := bx (gb_alloc (gb_refl _ none) (.cells #[.slice none 0 0, .slice none 0 0] 66)) hp
    obtain ⟨k0, k1, k2, k3, k4, k5, k6, k7, -⟩ := cells8x hp2
    have hfg := Fr2.after HG1.out hf (fun j hj => by have e : j = b1 := hj; have := HE0.out; omega)
    refine bodyPost_ret (v := .tuple #[.agg #[.int .i64 0, .string ⟨#[]⟩, .string ⟨#[]⟩, .bool false, .slice none 0 0, .bool false, .slice none 0 0, .int .i64 0], .int .i64 10]) (by simp [results, Tryz.results8, go_sem, k0, k1, k2, k3, k4, k5, k6, k7]) rfl (show FormAny T N l w _ _ from ⟨gb_alloc hfg _, .inr ⟨HBD.out, rfl⟩⟩)
end Go.Proofs.YtddccnpohpaofaaGreatDoor
