/- Lemmas. -/
import Derived.Test.YtijpelkjeejjfaaGreatDoorP37
set_option linter.unusedVariables false
set_option linter.unusedSimpArgs false
namespace Go.Proofs.YtijpelkjeejjfaaGreatDoor
open Go.RowKit

/-- What is read with some depth is the same with 200. -/
structure ReadF (l : List UInt8) (D : Int) (f : Bool) : Prop where
  d1 : 1 ≤ D
  d2 : D ≤ 200
  lex : (allE l).2.1 = 0
  ok : (treeT (allE l).1 D.toNat f).2.e = 0
  same : treeT (allE l).1 200 f = treeT (allE l).1 D.toNat f
  nodes : nodesQ l 200 f = nodesQ l D f
  ans : (ansQ l 200 f).2.1 = 0
theorem read_f {l : List UInt8} {D : Int} {f : Bool} (hl : l.length ≤ 30000) (h : (ansQ l D f).2.1 = 0) : ReadF l D f := by
  have hr : ¬ (D < 1 ∨ 200 < D) := fun e => by
    unfold ansQ at h; rw [if_pos e] at h; cases h
  have hx : (allE l).2.1 = 0 := by
    rcases Nat.eq_zero_or_pos (allE l).2.1 with h9 | h9
    · exact h9
    · rw [ans_lex hr (by omega) (by omega)] at h
      have h : (allE l).2.1 = 0 := h
      omega
  have ht : (treeT (allE l).1 D.toNat f).2.e = 0 := by
    have h9 := ans_good (f := f) hr (by omega) hx
    rcases Nat.eq_zero_or_pos (treeT (allE l).1 D.toNat f).2.e with h8 | h8
    · exact h8
    · rw [if_neg (by omega)] at h9
      rw [h9] at h
      have h : (treeT (allE l).1 D.toNat f).2.e = 0 := h
      omega
  have hs : treeT (allE l).1 200 f = treeT (allE l).1 D.toNat f := by
    rcases parse_depths hx (D := D.toNat) (D' := 200) (by omega) (by omega) f with e | ⟨e, -⟩
    · exact e.symm
    · rw [ht] at e; cases e
  refine ⟨by omega, by omega, hx, ht, hs, ?_, ?_⟩
  · unfold nodesQ
    rw [show ((200 : Int)).toNat = 200 from rfl, hs]
  · have h9 := ans_good (D := 200) (f := f) (by omega) (by omega) hx
    rw [show ((200 : Int)).toNat = 200 from rfl, hs, if_pos ht] at h9
    rw [h9]

/-- The tree of a formula alone: an expression, and the end. -/
theorem alone_one {l : List UInt8} {D : Int} (h : ReadF l D true) : ∃ t i, (treeT (allE l).1 D.toNat true).1 = [t, .lf i] ∧ isN t = true ∧ WE (allE l).1 t := by
  have h0 := h.ok
  unfold treeT at h0 ⊢
  rw [if_pos rfl] at h0 ⊢
  obtain ⟨k1, -, k3⟩ := kind_w (allE l).1 (k := 5) (s := ((nxT (allE l).1 D.toNat D.toNat).expr (setIn true startQ)).2) h0
  have hw := nx_w (allE l).1 (num_all l) D.toNat D.toNat (Nat.le_refl _)
  obtain ⟨t, ht, h1, h2⟩ := hw.expr (setIn true startQ) k3
  refine ⟨t, ((nxT (allE l).1 D.toNat D.toNat).expr (setIn true startQ)).2.i, ?_, h1, h2⟩
  show ((nxT (allE l).1 D.toNat D.toNat).expr (setIn true startQ)).1 ++ (kindT (allE l).1 5 ((nxT (allE l).1 D.toNat D.toNat).expr (setIn true startQ)).2).1 = _
  rw [ht, k1]; rfl
/-- How many kids a node may have. -/
theorem kids_few {l : List UInt8} {D : Int} {f : Bool} (hN : (nodesQ l D f).length ≤ 150000) : ∀ (i : Nat) (x : Nd), (nodesQ l D f)[i]? = some x → x.kids.length ≤ 150000 := fun i x hx => by
  have h1 := kids_room (.nd (kindR f) (treeT (allE l).1 D.toNat f).1) 0 x (List.mem_of_getElem? hx)
  have h2 : (nodesQ l D f).length = (post 0 (.nd (kindR f) (treeT (allE l).1 D.toNat f).1)).length := rfl
  omega
/-- The expression of a formula's tree. -/
def formE (l : List UInt8) (D : Int) : Ex := (axTs (allE l).1 (treeT (allE l).1 D.toNat true).1).headD nilE

/-! ### FormulaOf -/

def FormPost (x : Ex) (w : World) (e : Ending) (w' : World) : Prop := w.grownBy w' none ∧ ∃ q, e = .returned (.tuple #[.agg q.toArray, .int .i64 0]) ∧ EAt (fun k => w.heap.size ≤ k) w' x q

theorem form_root {l : List UInt8} {D : Int} (h : ReadF l D true) : ∃ (t : Tr) (ks : List Int) (k0 : Nat), (nodesQ l D true)[(nodesQ l D true).length - 1]? = some ⟨18, -1, ks⟩ ∧ ks[0]? = some (k0 : Int) ∧ GoodE (allE l).1 (nodesQ l D true) (k0 : Int) t ∧ axT (allE l).1 t = formE l D ∧ szR t ≤ (nodesQ l D true).length := by
  obtain ⟨t, i, ht, h1, h2⟩ := alone_one h
  have hr := TrAt.root (.nd 18 (treeT (allE l).1 D.toNat true).1)
  have hNN : nodesQ l D true = post 0 (.nd 18 (treeT (allE l).1 D.toNat true).1) := rfl
  obtain ⟨n, ks, hn, hx, hkt⟩ := hr.nd
  have hlen : (nodesQ l D true).length = szR (.nd 18 (treeT (allE l).1 D.toNat true).1) := by rw [hNN, post_len]
  have hn' : n = (nodesQ l D true).length - 1 := by omega
  rw [← hNN] at hx hkt
  rw [hn'] at hx
  obtain ⟨k0, hk0, hta, -⟩ := hkt.2 0 t (by rw [ht]; rfl)
  have hko := tree_ko (allE l).1 D.toNat true
  have hlv := tree_leaves h.lex D.toNat true h.ok
  rw [KO, ht] at hko
  rw [ht] at hlv
  simp only [kOks] at hko
  refine ⟨t, ks, k0, hx, hk0, ⟨h1, h2, hko.1, fun j hj => ?_, hta⟩, ?_, ?_⟩
  · have : j ∈ lvTs [t, .lf i] := by simp only [lvTs, List.mem_append]; exact .inl hj
    rw [hlv] at this
    exact List.mem_range.1 this
  · unfold formE
    rw [ht]
    rw [axTs, if_pos h1]; rfl
  · rw [hlen, ht]
    simp only [szR, szRs]; omega

theorem three0 (w : World) (A : Obj) : ∃ (W : World) (b0 : Nat), W = w.alloc A ∧ w.heap.size = b0 ∧ W.heap[b0]? = some A ∧ w.grownBy W none :=
  ⟨_, _, rfl, rfl, heap_alloc_new w A, World.grownBy_alloc w A none⟩
/-- The tree of the text, made anew, is this one. -/
def TGood (T : List TokI) (N : List Nd) (l : List UInt8) (f : Bool) : Prop := (ansQ l 200 f).2.1 = 0 ∧ T = (allE l).1.map toI ∧ N = nodesQ l 200 f
def RdrAny (T : List TokI) (N : List Nd) (l : List UInt8) (f : Bool) (w : World) (e : Ending) (w' : World) : Prop :=
  w.grownBy w' none ∧ ((TGood T N l f ∧ ∃ pt ct pn cn K, e = .returned (.tuple #[.agg #[.slice pt (allE l).1.length ct, .slice pn (nodesQ l 200 f).length cn], .int .i64 0]) ∧ TAt w' pt (allE l).1 ∧ NodesAt w' pn (nodesQ l 200 f) K ∧ (nodesQ l 200 f).length ≤ 2 * (allE l).1.length ∧ FarK (nodesQ l 200 f) K (fun k => w.heap.size ≤ k)) ∨
    (¬ TGood T N l f ∧ e = .returned (.tuple #[.agg #[.slice none 0 0, .slice none 0 0], .int .i64 10])))
theorem toks_map {w : World} {p : Option Addr} {T : List Tok} (h : TAt w p T) : ToksAt w p (T.map toI) := by
  rcases h with h | ⟨g, off, rfl, hl, hc⟩
  · subst h; exact .inl rfl
  · refine .inr ⟨g, off, rfl, hl, fun j q hj i v hi => ?_⟩
    unfold toksV at hj
    rw [List.getElem?_map, List.getElem?_map] at hj
    cases ht : T[j]? with
    | none => rw [ht] at hj; cases hj
    | some t =>
      rw [ht] at hj
      injection hj with hj
      subst hj
      obtain ⟨h0, h1, h2, h3⟩ := hc j t ht
      match i, hi with
      | 0, hi => injection hi with hi; subst hi; exact h0
      | 1, hi => injection hi with hi; subst hi; exact h1
      | 2, hi => injection hi with hi; subst hi; exact h2
      | 3, hi => injection hi with hi; subst hi; exact h3
      | k + 4, hi => simp [tokVI, toI] at hi

set_option maxRecDepth 100000 in
set_option maxHeartbeats 16000000 in
theorem newReaderAF_c (T : List TokI) (N : List Nd) (K : Kf) (s : ByteArray) (hs : s.size ≤ 25000) (hw : wholeI T = s.data.toList) (hT : T.length ≤ 100000) (hN : N.length ≤ 150000) (hk : ∀ (i : Nat) (x : Nd), N[i]? = some x → x.kids.length ≤ 150000) (pt pn : Option Addr) (ct cn : Nat) (w : World) (hla : LaidE w) (ht : ToksAt w pt T) (hn : NodesAt w pn N K) :
    Calls Tryz.prog 46 #[.agg #[.slice pt T.length ct, .slice pn N.length cn], .func (.func 23) #[] #[]] w (RdrAny T N s.data.toList true w) := by
  have hsl : s.data.toList.length = s.size := list_len s
  have HP := Lib.hid (fun W h => Formula_p s 200 W hs h)
  have HSH := Lib.hid (fun (W : World) h => ShowI_c T pt pn ct N.length cn W (by omega) (by rw [hw]; omega) h)
  rw [hw] at HSH
  have HWE := Lib.hid hw
  have HSL : Hid (s.data.toList = s.data.toList) := Lib.hid rfl
  obtain ⟨l, hl⟩ : ∃ l, s.data.toList = l := ⟨_, rfl⟩
  rw [hl] at HP HSH hsl ⊢
  have HLS := Lib.hid hl
  have HT := Lib.hid ht; have HN := Lib.hid hn; have HLA := Lib.hid hla; have HTL := Lib.hid hT; have HNL := Lib.hid hN; have HK := Lib.hid hk; have HSS := Lib.hid hsl; have HS0 := Lib.hid hs
  clear ht hn hla hN hs hsl hl hw hk hT
  obtain ⟨m, hm⟩ : ∃ m, T.length = m := ⟨_, rfl⟩
  obtain ⟨M, hM⟩ : ∃ M, N.length = M := ⟨_, rfl⟩
  have Hm := Lib.hid hm; have HM := Lib.hid hM
  rw [hm, hM] at HSH ⊢
  clear hm hM
  go_enter Tryz.func46, Tryz.ntmps46
  go_wp2_with fail
  obtain ⟨W, b0, b1, hW, e0, e1, hB0, hB1, hgW, h01⟩ := two w (.cells #[.slice pt m ct, .slice pn M cn] 64) (.cells #[.slice none 0 0, .slice none 0 0] 103)
  have HB0 := Lib.hid hB0; have HB1 := Lib.hid hB1; have HGW := Lib.hid hgW; have HE0 := Lib.hid e0
  clear hB0 hB1 hgW
  try rw [← hW]
  try rw [e1]
  try rw [e0]
  clear e0 e1 hW
  refine (HSH.out _ (HT.out.kept HGW.out)).mono ?_
  rintro e w1 ⟨⟨y, rfl, hy⟩, hg1⟩
  have hys : y = s := ByteArray.ext (Array.toList_inj.1 (hy.trans HLS.out.symm))
  subst hys
  have HG1 := Lib.hid (gb_trans HGW.out hg1)
  have HB01 := Lib.hid (bx hg1 HB0.out); have HB11 := Lib.hid (bx hg1 HB1.out)
  clear hg1 hy HSH
  go_wp2_with fail
  refine (HP.out _ (HLA.out.kept HG1.out)).mono ?_
  rintro e w2 ⟨hg2, he⟩
  by_cases hne : (ansQ l 200 true).2.1 ≠ 0
  · rw [if_pos hne] at he
    subst he
    have HBAD : Hid (¬ TGood T N l true) := Lib.hid (fun h => hne h.1)
    unfold badV
    obtain ⟨E, hE⟩ : ∃ E, (ansQ l 200 true).2.1 = E := ⟨_, rfl⟩
    obtain ⟨P, hP⟩ : ∃ P, (ansQ l 200 true).2.2 = P := ⟨_, rfl⟩
    rw [hE] at hne
    rw [hE, hP]
    have e1 : ((E : Int) != 0) = true := bne_iff_ne.2 (by omega)
    have e1' : (E != 0) = true := bne_iff_ne.2 hne
    have e2 : ((E : Int) == 0) = false := beq_eq_false_iff_ne.2 (by omega)
    have e2' : (E == 0) = false := beq_eq_false_iff_ne.2 hne
    have HG2 := Lib.hid (gb_trans HG1.out hg2)
    have HB12 := Lib.hid (bx hg2 HB11.out)
    clear hg2 hE hP hne HP
    obtain ⟨c0, c1, c2⟩ := cells2 HB12.out
    have hb1 : b1 < w2.heap.size := hlt HB12.out
    go_wp2_with fail
    have hf : Fr2 (Self b1) w2 ((w2.setCell ⟨b1, 0, none⟩ (.slice none 0 0)).setCell ⟨b1, 1, none⟩ (.slice none 0 0)) := ((Fr2.refl _ _).setCell (mine b1) _).setCell (mine b1) _
    have hfg := Fr2.after HG2.out hf (fun j hj => by have e : j = b1 := hj; have := HE0.out; omega)
    have hc := set_cells (i := 1) (u := .slice none 0 0) (set_cells (i := 0) (u := .slice none 0 0) HB12.out)
    have hc2 := bx (gb_alloc (gb_alloc (gb_refl _ none) (.cells #[.slice none 0 0, .slice none 0 0] 64)) (.cells #[.int .i64 (E : Int), .int .i64 (P : Int)] 66)) (show ((w2.setCell ⟨b1, 0, none⟩ (.slice none 0 0)).setCell ⟨b1, 1, none⟩ (.slice none 0 0)).heap[b1]? = some (Obj.cells #[.slice none 0 0, .slice none 0 0] 103) from hc)
    obtain ⟨k0, k1, -⟩ := cells2 hc2
    refine bodyPost_ret (v := .tuple #[.agg #[.slice none 0 0, .slice none 0 0], .int .i64 10]) (by simp [results, Tryz.results46, go_sem, k0, k1]) rfl (show RdrAny T N l true w _ _ from ⟨gb_alloc (gb_alloc hfg _) _, .inr ⟨HBAD.out, rfl⟩⟩)
  · rw [if_neg hne] at he
    obtain ⟨pt', ct', pn', cn', K', rfl, hta, -, hna, hf1, hf2, hf3, hN2⟩ := he
    have hok : (ansQ l 200 true).2.1 = 0 := by omega
    have hR := read_f (l := l) (by have := HSS.out; have := HS0.out; omega) hok
    have hlen := len_all hR.lex
    have HOK := Lib.hid hok; have HN2 := Lib.hid hN2
    have hlb : (allE l).1.length ≤ 30000 := by have := HSS.out; have := HS0.out; omega
    have HSE := Lib.hid (fun (pt' pn' : Option Addr) (ct' cn' : Nat) (K' : Kf) W h1 h2 h3 h4 => sameTreeI_c T ((allE l).1.map toI) N (nodesQ l 200 true) K K' (by have := HTL.out; omega) (by rw [List.length_map]; omega) HNL.out (by omega) HK.out (kids_few (by omega)) pt pt' pn pn' ct ct' cn cn' W h1 h2 h3 h4)
    rw [List.length_map] at HSE
    obtain ⟨L, hL⟩ : ∃ L, (allE l).1 = L := ⟨_, rfl⟩
    obtain ⟨Q, hQ⟩ : ∃ Q, nodesQ l 200 true = Q := ⟨_, rfl⟩
    have HGD : Hid (TGood T N l true ↔ T = L.map toI ∧ N = Q) := Lib.hid ⟨fun h => by rw [← hL, ← hQ]; exact ⟨h.2.1, h.2.2⟩, fun h => ⟨HOK.out, by rw [hL]; exact h.1, by rw [hQ]; exact h.2⟩⟩
    have HPO : Hid (∀ e w', w.grownBy w' none ∧ ((TGood T N l true ∧ ∃ pt ct pn cn K, e = .returned (.tuple #[.agg #[.slice pt L.length ct, .slice pn Q.length cn], .int .i64 0]) ∧ TAt w' pt L ∧ NodesAt w' pn Q K ∧ Q.length ≤ 2 * L.length ∧ FarK Q K (fun k => w.heap.size ≤ k)) ∨ (¬ TGood T N l true ∧ e = .returned (.tuple #[.agg #[.slice none 0 0, .slice none 0 0], .int .i64 10]))) → RdrAny T N l true w e w') := Lib.hid (fun e w' h => by unfold RdrAny; rw [hL, hQ]; exact h)
    rw [hL] at HSE HN2 hta hf1 ⊢
    rw [hQ] at HSE HN2 hna hf2 hf3 ⊢
    have HF1 := Lib.hid hf1; have HF2 := Lib.hid hf2; have HF3 := Lib.hid hf3
    have HTA := Lib.hid hta; have HNA := Lib.hid hna
    clear hR hok hne hL hQ hlen hlb hta hna hf1 hf2 hf3 hN2
    obtain ⟨m', hm'⟩ : ∃ m', L.length = m' := ⟨_, rfl⟩
    obtain ⟨M', hM'⟩ : ∃ M', Q.length = M' := ⟨_, rfl⟩
    have Hm' := Lib.hid hm'; have HM' := Lib.hid hM'
    have HB1S : Hid (b1 < w1.heap.size) := Lib.hid (hlt HB11.out)
    rw [hm', hM'] at HSE ⊢
    rw [Hm.out, HM.out] at HSE
    have HG2 := Lib.hid (gb_trans HG1.out hg2)
    have HB02 := Lib.hid (bx hg2 HB01.out); have HB12 := Lib.hid (bx hg2 HB11.out)
    clear hg2 HP HB01 HB11 HB0 HB1 hm' hM'
    obtain ⟨a0, a1, a2⟩ := cells2 HB02.out
    have hb0 : b0 < w2.heap.size := hlt HB02.out
    go_wp2_with fail
    obtain ⟨W3, b2, b3, hW3, e2, e3, hB2, hB3, hgW3, h23⟩ := two w2 (.cells #[.slice pt' m' ct', .slice pn' M' cn'] 64) (.cells #[.int .i64 0, .int .i64 0] 66)
    have HB2 := Lib.hid hB2; have HB3 := Lib.hid hB3; have HGW3 := Lib.hid hgW3
    have hb12 : b1 < b2 := by have := hlt HB12.out; omega
    clear hB2 hB3 hgW3
    try rw [← hW3]
    try rw [e3]
    try rw [e2]
    clear e2 e3 hW3
    have HG3 := Lib.hid (gb_trans HG2.out HGW3.out)
    refine (HSE.out pt' pn' ct' cn' K' _ (HT.out.kept HG3.out) (toks_map (HTA.out.kept HGW3.out)) (HN.out.kept HG3.out) (HNA.out.kept HGW3.out)).mono ?_
    rintro e w4 ⟨hg4, b, rfl, hb⟩
    have HBB := Lib.hid hb
    have HG4 := Lib.hid (gb_trans HG3.out hg4)
    have hgg := gb_trans HGW3.out hg4
    have HTA4 := Lib.hid (HTA.out.kept hgg); have HNA4 := Lib.hid (HNA.out.kept hgg)
    have HB14 := Lib.hid (bx hgg HB12.out)
    obtain ⟨c0, c1, c2⟩ := cells2 (bx hg4 HB2.out)
    obtain ⟨d0, d1, d2⟩ := cells2 HB14.out
    have hb14 : b1 < w4.heap.size := hlt HB14.out
    clear hg4 hgg HSE hb
    cases b
    · have HBAD : Hid (¬ TGood T N l true) := Lib.hid (fun h => by have := HBB.out.2 (HGD.out.1 h); cases this)
      go_wp2_with fail
      have hf : Fr2 (Self b1) w4 ((w4.setCell ⟨b1, 0, none⟩ (.slice none 0 0)).setCell ⟨b1, 1, none⟩ (.slice none 0 0)) := ((Fr2.refl _ _).setCell (mine b1) _).setCell (mine b1) _
      have hfg := Fr2.after HG4.out hf (fun j hj => by have e : j = b1 := hj; have := HE0.out; omega)
      have hc := set_cells (i := 1) (u := .slice none 0 0) (set_cells (i := 0) (u := .slice none 0 0) HB14.out)
      obtain ⟨k0, k1, -⟩ := cells2 (show ((w4.setCell ⟨b1, 0, none⟩ (.slice none 0 0)).setCell ⟨b1, 1, none⟩ (.slice none 0 0)).heap[b1]? = some (Obj.cells #[.slice none 0 0, .slice none 0 0] 103 (0, 0)) from hc)
      refine bodyPost_ret (v := .tuple #[.agg #[.slice none 0 0, .slice none 0 0], .int .i64 10]) (by simp [results, Tryz.results46, go_sem, k0, k1]) rfl (HPO.out _ _ ⟨hfg, .inr ⟨HBAD.out, rfl⟩⟩)
    · go_wp2_with fail
      have hf : Fr2 (Self b1) w4 ((w4.setCell ⟨b1, 0, none⟩ (.slice pt' m' ct')).setCell ⟨b1, 1, none⟩ (.slice pn' M' cn')) := ((Fr2.refl _ _).setCell (mine b1) _).setCell (mine b1) _
      have hfg := Fr2.after HG4.out hf (fun j hj => by have e : j = b1 := hj; have := HE0.out; omega)
      have hc := set_cells (i := 1) (u := .slice pn' M' cn') (set_cells (i := 0) (u := .slice pt' m' ct') HB14.out)
      obtain ⟨k0, k1, -⟩ := cells2 (show ((w4.setCell ⟨b1, 0, none⟩ (.slice pt' m' ct')).setCell ⟨b1, 1, none⟩ (.slice pn' M' cn')).heap[b1]? = some (Obj.cells #[.slice pt' m' ct', .slice pn' M' cn'] 103 (0, 0)) from hc)
      have hta5 := HTA4.out.keptF hf (fun h0 a ha e => by have e : a.block = b1 := e; have h1 := HF1.out h0 a ha; have h2 := HB1S.out; omega)
      have hna5 : NodesAt _ pn' Q K' := ⟨GAt.keptB HNA4.out.1 hf (fun h0 a ha e => by have e : a.block = b1 := e; have h1 := HF2.out (fun h => h0 (by rw [h]; rfl)) a ha; have h2 := HB1S.out; omega), fun i y hy => (HNA4.out.2 i y hy).keptF hf (fun h0 a ha e => by have e : a.block = b1 := e; have h1 := HF3.out i y hy (intsV_ne h0) a ha; have h2 := HB1S.out; omega)⟩
      refine bodyPost_ret (v := .tuple #[.agg #[.slice pt' m' ct', .slice pn' M' cn'], .int .i64 0]) (by simp [results, Tryz.results46, go_sem, k0, k1]) rfl (HPO.out _ _ ⟨hfg, .inl ⟨HGD.out.2 (HBB.out.1 (by simp)), pt', ct', pn', cn', K', by rw [Hm'.out, HM'.out], hta5, hna5, HN2.out, fun i y hy h0 a ha => Nat.le_trans HG1.out.size (HF3.out i y hy h0 a ha)⟩⟩)
end Go.Proofs.YtijpelkjeejjfaaGreatDoor
