/- The tree of a formula is read anew: the same. -/
import Derived.Test.YtdilncefhfbgeaaGreatDoorM17
import Derived.Test.YtdilncefhfbgeaaGreatDoorPRead
import Derived.Test.YtdilncefhfbgeaaGreatDoorM10
import Derived.Test.YtdilncefhfbgeaaGreatDoorUDump
import Derived.Test.YtdilncefhfbgeaaGreatDoorM8
set_option linter.unusedVariables false
set_option linter.unusedSimpArgs false
namespace Go.Proofs.YtdilncefhfbgeaaGreatDoor
open Go.RowKit

/-- What is read with some depth is the same with 200. -/
structure ReadF (l : List UInt8) (D : Int) (f : Bool) : Prop where
  d1 : 1 ≤ D
  d2 : D ≤ 200
  lex : (allE l).2.1 = 0
  ok : (treeT (allE l).1 D.toNat f).2.e = 0
  same : treeT (allE l).1 200 f = treeT (allE l).1 D.toNat f
  nodes : nodesQ l 200 f = nodesQ l D f
  ans : (ansQ l 200 f).2.1 = 0
theorem read_f {l : List UInt8} {D : Int} {f : Bool} (hl : l.length ≤ 30000) (h : (ansQ l D f).2.1 = 0) : ReadF l D f := by
  have hr : ¬ (D < 1 ∨ 200 < D) := fun e => by
    unfold ansQ at h; rw [if_pos e] at h; cases h
  have hx : (allE l).2.1 = 0 := by
    rcases Nat.eq_zero_or_pos (allE l).2.1 with h9 | h9
    · exact h9
    · rw [ans_lex hr (by omega) (by omega)] at h
      have h : (allE l).2.1 = 0 := h
      omega
  have ht : (treeT (allE l).1 D.toNat f).2.e = 0 := by
    have h9 := ans_good (f := f) hr (by omega) hx
    rcases Nat.eq_zero_or_pos (treeT (allE l).1 D.toNat f).2.e with h8 | h8
    · exact h8
    · rw [if_neg (by omega)] at h9
      rw [h9] at h
      have h : (treeT (allE l).1 D.toNat f).2.e = 0 := h
      omega
  have hs : treeT (allE l).1 200 f = treeT (allE l).1 D.toNat f := by
    rcases parse_depths hx (D := D.toNat) (D' := 200) (by omega) (by omega) f with e | ⟨e, -⟩
    · exact e.symm
    · rw [ht] at e; cases e
  refine ⟨by omega, by omega, hx, ht, hs, ?_, ?_⟩
  · unfold nodesQ
    rw [show ((200 : Int)).toNat = 200 from rfl, hs]
  · have h9 := ans_good (D := 200) (f := f) (by omega) (by omega) hx
    rw [show ((200 : Int)).toNat = 200 from rfl, hs, if_pos ht] at h9
    rw [h9]

/-- The tree of a formula alone: an expression, and the end. -/
theorem alone_one {l : List UInt8} {D : Int} (h : ReadF l D true) : ∃ t i, (treeT (allE l).1 D.toNat true).1 = [t, .lf i] ∧ isN t = true ∧ WE (allE l).1 t := by
  have h0 := h.ok
  unfold treeT at h0 ⊢
  rw [if_pos rfl] at h0 ⊢
  obtain ⟨k1, -, k3⟩ := kind_w (allE l).1 (k := 5) (s := ((nxT (allE l).1 D.toNat D.toNat).expr (setIn true startQ)).2) h0
  have hw := nx_w (allE l).1 (num_all l) D.toNat D.toNat (Nat.le_refl _)
  obtain ⟨t, ht, h1, h2⟩ := hw.expr (setIn true startQ) k3
  refine ⟨t, ((nxT (allE l).1 D.toNat D.toNat).expr (setIn true startQ)).2.i, ?_, h1, h2⟩
  show ((nxT (allE l).1 D.toNat D.toNat).expr (setIn true startQ)).1 ++ (kindT (allE l).1 5 ((nxT (allE l).1 D.toNat D.toNat).expr (setIn true startQ)).2).1 = _
  rw [ht, k1]; rfl
/-- How many kids a node may have. -/
theorem kids_few {l : List UInt8} {D : Int} {f : Bool} (hN : (nodesQ l D f).length ≤ 150000) : ∀ (i : Nat) (x : Nd), (nodesQ l D f)[i]? = some x → x.kids.length ≤ 150000 := fun i x hx => by
  have h1 := kids_room (.nd (kindR f) (treeT (allE l).1 D.toNat f).1) 0 x (List.mem_of_getElem? hx)
  have h2 : (nodesQ l D f).length = (post 0 (.nd (kindR f) (treeT (allE l).1 D.toNat f).1)).length := rfl
  omega
/-- The expression of a formula's tree. -/
def formE (l : List UInt8) (D : Int) : Ex := (axTs (allE l).1 (treeT (allE l).1 D.toNat true).1).headD nilE

def RdrPost (T : List Tok) (N : List Nd) (w : World) (e : Ending) (w' : World) : Prop :=
  w.grownBy w' none ∧ ∃ pt ct pn cn K, e = .returned (.tuple #[.agg #[.slice pt T.length ct, .slice pn N.length cn], .int .i64 0]) ∧ TAt w' pt T ∧ NodesAt w' pn N K

set_option maxRecDepth 100000 in
set_option maxHeartbeats 16000000 in
theorem newReaderF_c (s : ByteArray) (D : Int) (hs : s.size ≤ 25000) (hok : (ansQ s.data.toList D true).2.1 = 0) (pt pn : Option Addr) (ct cn : Nat) (K : Kf) (w : World) (hla : LaidE w) (ht : TAt w pt (allE s.data.toList).1) (hn : NodesAt w pn (nodesQ s.data.toList D true) K) (hN : (nodesQ s.data.toList D true).length ≤ 2 * (allE s.data.toList).1.length) :
    Calls Tryz.prog 50 #[.agg #[.slice pt (allE s.data.toList).1.length ct, .slice pn (nodesQ s.data.toList D true).length cn], .func (.func 26) #[] #[]] w (RdrPost (allE s.data.toList).1 (nodesQ s.data.toList D true) w) := by
  have hsl : s.data.toList.length = s.size := list_len s
  have hR := read_f (l := s.data.toList) (by omega) hok
  have HP := Lib.hid (fun W h => Formula_p s 200 W hs h)
  have HSL : Hid (s.data.toList = s.data.toList) := Lib.hid rfl
  obtain ⟨l, hl⟩ : ∃ l, s.data.toList = l := ⟨_, rfl⟩
  have hlen := len_all hR.lex
  rw [hl] at hR hN hlen ht hn hok HP hsl ⊢
  have hSh := fun (W : World) h => Show_c (allE l).1 pt pn ct (nodesQ l D true).length cn W (by omega) (by rw [whole_all hR.lex]; omega) h
  rw [whole_all hR.lex] at hSh
  have HSH := Lib.hid hSh
  have HSE := Lib.hid (fun (pt' pn' : Option Addr) (ct' cn' : Nat) (K' : Kf) W h1 h2 h3 h4 => sameTree_c (allE l).1 (nodesQ l D true) K K' (by omega) (by omega) (kids_few (by omega)) pt pt' pn pn' ct ct' cn cn' W h1 h2 h3 h4)
  have HLS := Lib.hid hl; have HR := Lib.hid hR
  have HT := Lib.hid ht; have HN := Lib.hid hn; have HLA := Lib.hid hla
  clear hSh ht hn hla hok hR hlen hN hs hsl
  obtain ⟨T, hT⟩ : ∃ T, (allE l).1 = T := ⟨_, rfl⟩
  obtain ⟨N, hNN⟩ : ∃ N, nodesQ l D true = N := ⟨_, rfl⟩
  have HTT := Lib.hid hT; have HNN := Lib.hid hNN
  rw [hT, hNN] at HSH HSE ⊢
  rw [hT] at HT
  rw [hNN] at HN
  clear hT hNN hl
  generalize hm : T.length = m at *
  generalize hM : N.length = M at *
  have Hm := Lib.hid hm; have HM := Lib.hid hM
  clear hm hM
  go_enter Tryz.func50, Tryz.ntmps50
  go_wp2_with fail
  obtain ⟨W, b0, b1, hW, e0, e1, hB0, hB1, hgW, h01⟩ := two w (.cells #[.slice pt m ct, .slice pn M cn] 26) (.cells #[.slice none 0 0, .slice none 0 0] 105)
  have HB0 := Lib.hid hB0; have HB1 := Lib.hid hB1; have HGW := Lib.hid hgW; have HE0 := Lib.hid e0
  clear hB0 hB1 hgW
  try rw [← hW]
  try rw [e1]
  try rw [e0]
  clear e0 e1 hW
  refine (HSH.out _ (HT.out.kept HGW.out)).mono ?_
  rintro e w1 ⟨⟨y, rfl, hy⟩, hg1⟩
  have hys : y = s := ByteArray.ext (Array.toList_inj.1 (hy.trans HLS.out.symm))
  subst hys
  have HG1 := Lib.hid (gb_trans HGW.out hg1)
  have HB01 := Lib.hid (bx hg1 HB0.out); have HB11 := Lib.hid (bx hg1 HB1.out)
  clear hg1 hy HSH
  go_wp2_with fail
  refine (HP.out _ (HLA.out.kept HG1.out)).mono ?_
  rintro e w2 ⟨hg2, he⟩
  rw [if_neg (by rw [HR.out.ans]; decide), HR.out.nodes] at he
  obtain ⟨pt', ct', pn', cn', K', rfl, hta, -, hna, hf1, hf2, hf3, -⟩ := he
  rw [HTT.out] at hf1
  rw [HNN.out] at hf2 hf3
  have HF1 := Lib.hid hf1; have HF2 := Lib.hid hf2; have HF3 := Lib.hid hf3
  have HB1S : Hid (b1 < w1.heap.size) := Lib.hid (hlt HB11.out)
  rw [HTT.out] at hta ⊢
  rw [HNN.out] at hna ⊢
  rw [Hm.out, HM.out]
  have HG2 := Lib.hid (gb_trans HG1.out hg2)
  have HB02 := Lib.hid (bx hg2 HB01.out); have HB12 := Lib.hid (bx hg2 HB11.out)
  have HTA := Lib.hid hta; have HNA := Lib.hid hna
  clear hg2 hta hna hf1 hf2 hf3 HP HB01 HB11 HB0 HB1
  obtain ⟨a0, a1, a2⟩ := cells2 HB02.out
  have hb0 : b0 < w2.heap.size := hlt HB02.out
  go_wp2_with fail
  obtain ⟨W3, b2, b3, hW3, e2, e3, hB2, hB3, hgW3, h23⟩ := two w2 (.cells #[.slice pt' m ct', .slice pn' M cn'] 26) (.cells #[.int .i64 0, .int .i64 0] 29)
  have HB2 := Lib.hid hB2; have HB3 := Lib.hid hB3; have HGW3 := Lib.hid hgW3
  have hb12 : b1 < b2 := by have := hlt HB12.out; omega
  clear hB2 hB3 hgW3
  try rw [← hW3]
  try rw [e3]
  try rw [e2]
  clear e2 e3 hW3
  have HG3 := Lib.hid (gb_trans HG2.out HGW3.out)
  refine (HSE.out pt' pn' ct' cn' K' _ (HT.out.kept HG3.out) (HTA.out.kept HGW3.out) (HN.out.kept HG3.out) (HNA.out.kept HGW3.out)).mono ?_
  rintro e w4 ⟨rfl, hg4⟩
  have HG4 := Lib.hid (gb_trans HG3.out hg4)
  have hgg := gb_trans HGW3.out hg4
  have HTA4 := Lib.hid (HTA.out.kept hgg); have HNA4 := Lib.hid (HNA.out.kept hgg)
  have HB14 := Lib.hid (bx hgg HB12.out)
  obtain ⟨c0, c1, c2⟩ := cells2 (bx hg4 HB2.out)
  obtain ⟨d0, d1, d2⟩ := cells2 HB14.out
  clear hg4 hgg HSE
  go_wp2_with fail
  have hf : Fr2 (Self b1) w4 ((w4.setCell ⟨b1, 0, none⟩ (.slice pt' m ct')).setCell ⟨b1, 1, none⟩ (.slice pn' M cn')) := ((Fr2.refl _ _).setCell (mine b1) _).setCell (mine b1) _
  have hfg := Fr2.after HG4.out hf (fun j hj => by have e : j = b1 := hj; have := HE0.out; omega)
  have hc := set_cells (i := 1) (u := .slice pn' M cn') (set_cells (i := 0) (u := .slice pt' m ct') HB14.out)
  obtain ⟨k0, k1, -⟩ := cells2 (show ((w4.setCell ⟨b1, 0, none⟩ (.slice pt' m ct')).setCell ⟨b1, 1, none⟩ (.slice pn' M cn')).heap[b1]? = some (Obj.cells #[.slice pt' m ct', .slice pn' M cn'] 105 (0, 0)) from hc)
  have hta5 := HTA4.out.keptF hf (fun h0 a ha e => by have e : a.block = b1 := e; have h1 := HF1.out h0 a ha; have h2 := HB1S.out; omega)
  have hna5 : NodesAt _ pn' N K' := ⟨GAt.keptB HNA4.out.1 hf (fun h0 a ha e => by have e : a.block = b1 := e; have h1 := HF2.out (fun h => h0 (by rw [h]; rfl)) a ha; have h2 := HB1S.out; omega), fun i y hy => (HNA4.out.2 i y hy).keptF hf (fun h0 a ha e => by have e : a.block = b1 := e; have h1 := HF3.out i y hy (intsV_ne h0) a ha; have h2 := HB1S.out; omega)⟩
  refine bodyPost_ret (v := .tuple #[.agg #[.slice pt' m ct', .slice pn' M cn'], .int .i64 0]) (by simp [results, Tryz.results50, go_sem, k0, k1]) rfl ⟨hfg, pt', ct', pn', cn', K', by rw [Hm.out, HM.out], hta5, hna5⟩

/-- The eight cells, each by its kind. -/
theorem EAt.form {F : Nat → Prop} {w : World} {x : Ex} {q : List Value} (h : EAt F w x q) : ∃ (op ps : Int) (a b : ByteArray) (s y : Bool) (p p' : Option Addr) (n c n' c' : Nat), q = [.int .i64 op, .string a, .string b, .bool s, .slice p n c, .bool y, .slice p' n' c', .int .i64 ps] := by
  cases x with
  | mk op nm md nu ys ks ps =>
    simp only [EAt] at h
    obtain ⟨s, pw, nw, cw, pk, ck, rows, rfl, -⟩ := h
    exact ⟨_, _, _, _, _, _, _, _, _, _, _, _, rfl⟩

/-! ### FormulaOf -/

def FormPost (x : Ex) (w : World) (e : Ending) (w' : World) : Prop := w.grownBy w' none ∧ ∃ q, e = .returned (.tuple #[.agg q.toArray, .int .i64 0]) ∧ EAt (fun k => w.heap.size ≤ k) w' x q

theorem form_root {l : List UInt8} {D : Int} (h : ReadF l D true) : ∃ (t : Tr) (ks : List Int) (k0 : Nat), (nodesQ l D true)[(nodesQ l D true).length - 1]? = some ⟨18, -1, ks⟩ ∧ ks[0]? = some (k0 : Int) ∧ GoodE (allE l).1 (nodesQ l D true) (k0 : Int) t ∧ axT (allE l).1 t = formE l D ∧ szR t ≤ (nodesQ l D true).length := by
  obtain ⟨t, i, ht, h1, h2⟩ := alone_one h
  have hr := TrAt.root (.nd 18 (treeT (allE l).1 D.toNat true).1)
  have hNN : nodesQ l D true = post 0 (.nd 18 (treeT (allE l).1 D.toNat true).1) := rfl
  obtain ⟨n, ks, hn, hx, hkt⟩ := hr.nd
  have hlen : (nodesQ l D true).length = szR (.nd 18 (treeT (allE l).1 D.toNat true).1) := by rw [hNN, post_len]
  have hn' : n = (nodesQ l D true).length - 1 := by omega
  rw [← hNN] at hx hkt
  rw [hn'] at hx
  obtain ⟨k0, hk0, hta, -⟩ := hkt.2 0 t (by rw [ht]; rfl)
  have hko := tree_ko (allE l).1 D.toNat true
  have hlv := tree_leaves h.lex D.toNat true h.ok
  rw [KO, ht] at hko
  rw [ht] at hlv
  simp only [kOks] at hko
  refine ⟨t, ks, k0, hx, hk0, ⟨h1, h2, hko.1, fun j hj => ?_, hta⟩, ?_, ?_⟩
  · have : j ∈ lvTs [t, .lf i] := by simp only [lvTs, List.mem_append]; exact .inl hj
    rw [hlv] at this
    exact List.mem_range.1 this
  · unfold formE
    rw [ht]
    rw [axTs, if_pos h1]; rfl
  · rw [hlen, ht]
    simp only [szR, szRs]; omega
end Go.Proofs.YtdilncefhfbgeaaGreatDoor
