/- The text of a tree, and of its root. -/
import Derived.Test.YtdfegmdmappefaaDoorURight
namespace Go.Proofs.YtdfegmdmappefaaDoor
open Go.RowKit

set_option maxRecDepth 100000 in
set_option maxHeartbeats 4000000 in
theorem Show_c (l : List Tok) (pt pn : Option Addr) (ct M cn : Nat) (w : World) (hl : l.length ≤ 1000000) (hL : (wholeL l).length ≤ 1000000) (h : TAt w pt l) :
    Calls Tryd.prog 24 #[.agg #[.slice pt l.length ct, .slice pn M cn]] w (StrGb (wholeL l) w) := by
  have HWH := Lib.hid (fun W (h : TAt W pt l) => Whole_c pt ct l W hl hL h)
  have HT := Lib.hid h
  obtain ⟨m, hm⟩ : ∃ m, l.length = m := ⟨_, rfl⟩
  rw [hm] at HWH ⊢
  clear hm h hl hL
  go_enter Tryd.func24, Tryd.ntmps24
  go_wp2_with fail
  have hgA := World.grownBy_alloc w (.cells #[.slice pt m ct, .slice pn M cn] 25) none
  refine (HWH.out _ (HT.out.kept hgA)).mono ?_
  rintro e w1 ⟨⟨s, rfl, hs⟩, hg⟩
  have HS := Lib.hid hs
  have HG := Lib.hid (gb_trans hgA hg)
  clear hgA hg hs
  go_wp2_with fail
  go_ret
  exact ⟨⟨s, rfl, HS.out⟩, HG.out⟩

theorem whole_lead {l : List Tok} {t : Tok} (h : l[0]? = some t) : t.lead ++ (wholeL l).drop t.lead.length = wholeL l ∧ t.lead.length ≤ (wholeL l).length := by
  cases l with
  | nil => simp at h
  | cons a l =>
    simp at h; subst h
    have h1 : wholeL (a :: l) = a.lead ++ (a.text ++ wholeL l) := by unfold wholeL; simp
    rw [h1, List.drop_left, List.length_append]
    exact ⟨rfl, by omega⟩

set_option maxRecDepth 100000 in
set_option maxHeartbeats 4000000 in
theorem text_c (l : List Tok) (t : Tok) (q : Option Addr) (c : Nat) (w : World) (hl : l.length ≤ 1000000) (hL : (wholeL l).length ≤ 1000000) (h : TAt w q l) (h0 : l[0]? = some t) :
    Calls Tryd.prog 31 #[.slice q l.length c] w (StrGb ((wholeL l).drop t.lead.length) w) := by
  have HWH := Lib.hid (fun W (h : TAt W q l) => Whole_c q c l W hl hL h)
  have HT := Lib.hid h
  have hlen := (List.getElem?_eq_some_iff.1 h0).1
  obtain ⟨hw1, hw2⟩ := whole_lead h0
  obtain ⟨g, off, rfl, hgl, hc⟩ := h.resolve_left (fun e => by rw [e] at h0; simp at h0)
  obtain ⟨-, c1, -, -⟩ := hc 0 t h0
  obtain ⟨m, hm⟩ : ∃ m, l.length = m := ⟨_, rfl⟩
  rw [hm] at HWH hlen ⊢
  unfold strV at c1
  obtain ⟨x, hx⟩ : ∃ x : ByteArray, (⟨t.lead.toArray⟩ : ByteArray) = x := ⟨_, rfl⟩
  have hxl : x.data.toList = t.lead := by rw [← hx]
  have hxs : x.size = t.lead.length := by rw [← list_len, hxl]
  rw [hx] at c1
  rw [← hxs] at hw2 ⊢
  rw [Nat.zero_mul, Nat.add_zero] at c1
  have d1 : ((m : Int) == 0) = false := beq_eq_false_iff_ne.2 (by omega)
  have d1' : (m == 0) = false := beq_eq_false_iff_ne.2 (by omega)
  have d2 : decide (0 < m) = true := decide_eq_true (by omega)
  have HW2 := Lib.hid hw2
  clear hm h hl hL hx hxl hxs hc h0 hw1 hw2
  go_enter Tryd.func31, Tryd.ntmps31
  go_wp2_with fail
  go_region_with (go_at_call 48; refine (HWH.out _ (HT.out.kept (by repeat (first | with_reducible exact gb_refl _ _ | with_reducible refine gb_drew ?_)))).mono ?_; rintro e w3 ⟨⟨s, rfl, hs⟩, hg3⟩; have HS := Lib.hid hs; have hss : x.size ≤ s.size := (by have h1 := HW2.out; rw [← hs, list_len] at h1; exact h1); have HG3 := Lib.hid (gb_trans (show w.grownBy _ none from (by repeat (first | with_reducible exact gb_refl _ _ | with_reducible refine gb_drew ?_))) hg3); have c1' := hg3.cell (a := ⟨g, off + 1, none⟩) (v := .string x) c1 (by simp); clear hs hg3)
  all_goals
    go_wp2_with fail
    go_ret
    refine ⟨⟨s.extract x.size s.size, rfl, by rw [ext_end s _ _ rfl, HS.out]⟩, ?_⟩
    repeat (first | with_reducible exact HG3.out | with_reducible refine gb_drew ?_)

theorem TAt.low {w : World} {g off : Nat} {l : List Tok} (h : TAt w (some ⟨g, off, none⟩) l) (h' : Option Addr) (e : h' = some ⟨g, off, none⟩) : TAt w h' l := e ▸ h

def SliceT (l : List Tok) (w : World) (e : Ending) (w' : World) : Prop := w.grownBy w' none ∧ ∃ p c, e = .returned (.slice p l.length c) ∧ TAt w' p l

set_option maxRecDepth 100000 in
set_option maxHeartbeats 8000000 in
theorem tokensOf_c (l : List Tok) (N : List Nd) (K : Nat → Option Addr × Nat) (hf : rightT l.length N) (hN : N.length ≤ 1000) (hm : l.length ≤ 1000) (hpos : 0 < l.length) (pt pn : Option Addr) (ct cn : Nat) (hct : l.length ≤ ct) (w : World) (ht : TAt w pt l) (hw : NodesAt w pn N K) :
    Calls Tryd.prog 32 #[.agg #[.slice pt l.length ct, .slice pn N.length cn], .int .i64 ((N.length - 1 : Nat) : Int)] w (SliceT l w) := by
  have hNp : 0 < N.length := List.length_pos_iff.2 hf.1.1
  have HLT := Lib.hid (fun W h => leafTokens_c N K hf.1 hN pt pn l.length ct cn (N.length - 1) (by omega) W h)
  have HW := Lib.hid hw
  have HT := Lib.hid ht
  obtain ⟨L, hL⟩ : ∃ L, lv N (N.length - 1) = L := ⟨_, rfl⟩
  have HL : Hid (L = (List.range l.length).map fun (j : Nat) => (j : Int)) := Lib.hid (by rw [← hL]; exact hf.2)
  have HLL : Hid (L.length = l.length) := Lib.hid (by rw [HL.out]; simp)
  rw [hL] at HLT
  obtain ⟨g, off, rfl, hgl, -⟩ := ht.resolve_left (fun e => by rw [e] at hpos; simp at hpos)
  have HPO : Hid (∀ w' p c, w.grownBy w' none → p = some ⟨g, off, none⟩ → SliceT l w (.returned (.slice p l.length c)) w') := Lib.hid (fun w' p c hg e => ⟨hg, p, c, rfl, e ▸ HT.out.kept hg⟩)
  obtain ⟨m, hm'⟩ : ∃ m, l.length = m := ⟨_, rfl⟩
  obtain ⟨M, hM⟩ : ∃ M, N.length = M := ⟨_, rfl⟩
  rw [hm', hM] at HLT
  rw [hm'] at HL HLL hm hpos HPO hct ⊢
  rw [hM] at hNp ⊢
  obtain ⟨r, hr⟩ : ∃ r, M - 1 = r := ⟨_, rfl⟩
  rw [hr] at HLT ⊢
  obtain ⟨m1, hm1⟩ : ∃ m1, m - 1 = m1 := ⟨_, rfl⟩
  have hw1 : IntKind.i64.wrap ((m : Int) - 1) = (m1 : Int) := by rw [IntWalk.i64_in _ (by omega)]; omega
  have hw2 : IntKind.i64.wrap ((m1 : Int) + 1) = (m : Int) := by rw [IntWalk.i64_in _ (by omega)]; omega
  have d1 : ((m : Int) == 0) = false := beq_eq_false_iff_ne.2 (by omega)
  have d1' : (m == 0) = false := beq_eq_false_iff_ne.2 (by omega)
  have d2 : m1 < m := by omega
  have d3 : (m : Int) ≤ (ct : Int) := by omega
  have HM1 := Lib.hid hm1
  clear hm1 hr hM hm' hL hf ht hw
  go_enter Tryd.func32, Tryd.ntmps32
  go_wp2_with fail
  have hA := heap_alloc_new w (.cells #[.slice (some ⟨g, off, none⟩) m ct, .slice pn M cn] 25)
  have hgA := World.grownBy_alloc w (.cells #[.slice (some ⟨g, off, none⟩) m ct, .slice pn M cn] 25) none
  generalize (w.alloc (.cells #[.slice (some ⟨g, off, none⟩) m ct, .slice pn M cn] 25)) = W at *
  obtain ⟨b, hb⟩ : ∃ b, w.heap.size = b := ⟨_, rfl⟩
  rw [hb] at hA ⊢
  have HA := Lib.hid hA; have HGA := Lib.hid hgA
  clear hA hgA hb
  refine (HLT.out _ (HW.out.kept HGA.out)).mono ?_
  rintro e w3 ⟨hg3, p, c, rfl, hv⟩
  rw [HLL.out]
  have HG3 := Lib.hid (gb_trans HGA.out hg3)
  obtain ⟨a0, a1⟩ := cells_tree (bx hg3 HA.out)
  obtain ⟨g2, o2, rfl, hg2, ck0⟩ := kid_at hv (j := 0) (x := 0) (by rw [HL.out]; exact range_get hpos)
  obtain ⟨g2', o2', e2, -, ck1⟩ := kid_at hv (j := m1) (x := (m1 : Int)) (by rw [HL.out]; exact range_get d2)
  cases e2
  rw [Nat.add_zero] at ck0
  clear hv hg3 HLT HA HGA
  go_wp2_with fail
  go_region
  all_goals
    go_wp2_with fail
    go_ret
    exact HPO.out _ _ _ (gb_drew HG3.out) rfl

def TextOk (v : List UInt8) (w : World) (e : Ending) (w' : World) : Prop := (∃ r : ByteArray, e = .returned (.tuple #[.string r, .int .i64 0]) ∧ r.data.toList = v) ∧ w.grownBy w' none

set_option maxRecDepth 100000 in
set_option maxHeartbeats 8000000 in
theorem Text_c (l : List Tok) (t : Tok) (N : List Nd) (K : Nat → Option Addr × Nat) (hf : rightT l.length N) (hN : N.length ≤ 1000) (hm : l.length ≤ 1000) (hL : (wholeL l).length ≤ 1000000) (h0 : l[0]? = some t) (pt pn : Option Addr) (ct cn : Nat) (hct : l.length ≤ ct) (w : World) (ht : TAt w pt l) (hw : NodesAt w pn N K) :
    Calls Tryd.prog 11 #[.agg #[.slice pt l.length ct, .slice pn N.length cn], .int .i64 ((N.length - 1 : Nat) : Int)] w (TextOk ((wholeL l).drop t.lead.length) w) := by
  have hpos : 0 < l.length := (List.getElem?_eq_some_iff.1 h0).1
  have hNp : 0 < N.length := List.length_pos_iff.2 hf.1.1
  have H1 := Lib.hid (fun W h => asks_c N K hf hN hm pt pn ct cn (N.length - 1) (by omega) W h)
  have H2 := Lib.hid (fun W h1 h2 => tokensOf_c l N K hf hN hm hpos pt pn ct cn hct W h1 h2)
  have H3 := Lib.hid (fun q c W h => text_c l t q c W (by omega) hL h h0)
  have HT := Lib.hid ht
  have HW := Lib.hid hw
  obtain ⟨m, hm'⟩ : ∃ m, l.length = m := ⟨_, rfl⟩
  obtain ⟨M, hM⟩ : ∃ M, N.length = M := ⟨_, rfl⟩
  rw [hm', hM] at H1 H2
  rw [hm'] at H3 ⊢
  rw [hM] at ⊢
  have HLM := Lib.hid hm'
  obtain ⟨r, hr⟩ : ∃ r, M - 1 = r := ⟨_, rfl⟩
  rw [hr] at H1 H2 ⊢
  clear hm' hM hr hf ht hw hN hL h0 hpos hNp hct hm
  go_enter Tryd.func11, Tryd.ntmps11
  go_wp2_with fail
  have hA := heap_alloc_new w (.cells #[.slice pt m ct, .slice pn M cn] 25)
  have hgA := World.grownBy_alloc w (.cells #[.slice pt m ct, .slice pn M cn] 25) none
  generalize (w.alloc (.cells #[.slice pt m ct, .slice pn M cn] 25)) = W at *
  obtain ⟨b, hb⟩ : ∃ b, w.heap.size = b := ⟨_, rfl⟩
  rw [hb] at hA ⊢
  have HA := Lib.hid hA; have HGA := Lib.hid hgA
  clear hA hgA hb
  refine (H1.out _ (HW.out.kept HGA.out)).mono ?_
  rintro e w1 ⟨rfl, hg⟩
  have HG1 := Lib.hid (gb_trans HGA.out hg)
  have HA1 := Lib.hid (bx hg HA.out)
  obtain ⟨a0, a1⟩ := cells_tree HA1.out
  clear hg HA HGA
  go_wp2_with fail
  refine (H2.out _ (HT.out.kept HG1.out) (HW.out.kept HG1.out)).mono ?_
  rintro e w2 ⟨hg2, p, c, rfl, hp⟩
  rw [HLM.out]
  have HG2 := Lib.hid (gb_trans HG1.out hg2)
  have HP := Lib.hid hp
  clear hg2 hp HA1 HG1 a0 a1
  go_wp2_with fail
  refine (H3.out _ _ _ HP.out).mono ?_
  rintro e w3 ⟨⟨s, rfl, hs⟩, hg3⟩
  have HS := Lib.hid hs
  have HG3 := Lib.hid (gb_trans HG2.out hg3)
  clear hs hg3
  go_wp2_with fail
  go_ret2
  exact ⟨⟨s, rfl, HS.out⟩, HG3.out⟩
end Go.Proofs.YtdfegmdmappefaaDoor
