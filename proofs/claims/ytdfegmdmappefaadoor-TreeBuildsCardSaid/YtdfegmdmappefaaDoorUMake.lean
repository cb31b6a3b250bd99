/- NewBuilder, Leaf, Node. -/
import Derived.Test.YtdfegmdmappefaaDoorUBld
namespace Go.Proofs.YtdfegmdmappefaaDoor
open Go.RowKit

def NewPost (l : List Tok) (w : World) (e : Ending) (w' : World) : Prop :=
  ∃ b, e = .returned (.pointer (some ⟨b, 0, none⟩)) ∧ w.heap.size ≤ b ∧ BldV w' b l 0 [] (.slice none 0 0) ∧ w.grownBy w' none

set_option maxRecDepth 100000 in
set_option maxHeartbeats 4000000 in
theorem NewBuilder_c (l : List Tok) (q : Option Addr) (c : Nat) (w : World) (hl : l.length ≤ 100000) (hs : Short l) (h : TAt w q l) :
    Calls Tryd.prog 19 #[.slice q l.length c] w (NewPost l w) := by
  have HT := Lib.hid (ownTokens_c l q c w hl hs h)
  have HP : Hid (∀ w' p c, OwnG 4 53 w' w.heap.size (.slice p l.length c) (rowT l) → w.grownBy w' none → NewPost l w (.returned (.pointer (some ⟨w'.heap.size, 0, none⟩))) (w'.alloc (.cells #[.slice p l.length c, .int .i64 0, .slice none 0 0] 84))) := Lib.hid (fun w' p c ho hg => by
    have hga := World.grownBy_alloc w' (.cells #[.slice p l.length c, .int .i64 0, .slice none 0 0] 84) none
    obtain ⟨p', c', e, ht, h1, -, -⟩ := ho.is
    rw [rowT_len] at e h1
    injection e with e1 e2 e3
    subst e1; subst e3
    refine ⟨w'.heap.size, rfl, hg.size, ⟨p, c, fun _ => (none, 0), heap_alloc_new w' _, h1, (t_of_g ht).kept hga, fun h0 a ha => ?_, OwnG.nil _ _ _ _, fun i x hx => by simp at hx, fun i x hx => by simp at hx⟩, gb_trans hg hga⟩
    obtain ⟨g, off, e, hlt, -⟩ := (t_of_g ht).resolve_left h0
    rw [ha] at e; cases e; exact hlt)
  have HLN : Hid (∀ v w', OwnG 4 53 w' w.heap.size v (rowT l) → ∃ p c, v = .slice p l.length c) := Lib.hid (fun v w' ho => by
    obtain ⟨p', c', e, -⟩ := ho.is
    rw [rowT_len] at e
    exact ⟨p', c', e⟩)
  obtain ⟨m, hm⟩ : ∃ m, l.length = m := ⟨_, rfl⟩
  rw [hm] at HT HP HLN ⊢
  clear hm h hs hl
  go_enter Tryd.func19, Tryd.ntmps19
  go_wp2_with fail
  refine HT.out.mono ?_
  rintro e w1 ⟨v, rfl, ho, hg⟩
  obtain ⟨p, c', rfl⟩ := HLN.out _ _ ho
  have HO := Lib.hid ho; have HG := Lib.hid hg
  clear ho hg
  go_wp2_with fail
  go_ret
  exact HP.out _ _ _ HO.out HG.out

set_option maxRecDepth 100000 in
set_option maxHeartbeats 4000000 in
theorem Leaf_none (b : Nat) (l : List Tok) (N : List Nd) (vn : Value) (w : World) (hl : l.length ≤ 100000) (h : BldV w b l l.length N vn) :
    Calls Tryd.prog 21 #[.pointer (some ⟨b, 0, none⟩)] w (ValPost (.int .i64 (-1)) w) := by
  obtain ⟨pt, ct, K, h⟩ := h
  have hbox := h.box
  obtain ⟨m, hm⟩ : ∃ m, l.length = m := ⟨_, rfl⟩
  rw [hm] at hbox
  obtain ⟨d0, d1, d2, d3⟩ := cells3' hbox
  clear hbox hm h
  go_enter Tryd.func21, Tryd.ntmps21
  go_wp2_with fail
  go_quiet (fail)
  go_wp2_with fail
  go_ret
  exact ⟨rfl, by repeat (first | with_reducible exact gb_refl _ _ | with_reducible refine gb_drewN ?_ _ | with_reducible refine gb_drew ?_)⟩

theorem AddPost.after {w w1 : World} {b : Nat} {l : List Tok} {u : Nat} {N : List Nd} {x : Nd} {vn : Value} {e : Ending} {w' : World} (h : AddPost w1 b l u N x vn e w') (hf : Fr2 (Turn b vn) w w1) : AddPost w b l u N x vn e w' := by
  obtain ⟨he, vn', h1, h2, h3⟩ := h
  exact ⟨he, vn', h1, hf.trans h2, fun k hk => (h3 k hk).imp id fun h => Nat.le_trans hf.size h⟩

theorem Bld.setUsed {w : World} {b : Nat} {pt : Option Addr} {ct : Nat} {l : List Tok} {u : Nat} {vn : Value} {N : List Nd} {K : Kf} (h : Bld w b pt ct l u vn N K) (u' : Nat) : Bld (w.setCell ⟨b, 1, none⟩ (.int .i64 (u' : Int))) b pt ct l u' vn N K := by
  have hf := Fr2.setCell (S := fun k => k = b) (Fr2.refl _ w) (g := b) (j := 1) rfl (.int .i64 (u' : Int))
  refine ⟨set_cells (i := 1) (u := .int .i64 (u' : Int)) h.box, h.cap, h.toks.keptF hf (fun h0 a ha e => by have := h.tlow h0 a ha; omega), h.tlow, h.own.keptF hf (fun k e e2 => by have := (h.turn k e).1; omega), fun i x hx => (h.kids i x hx).keptF hf fun h0 a ha e => ?_, fun i x hx hn a ha => ?_⟩
  · have := (h.khi i x hx (intsV_ne h0) a ha).1; omega
  · obtain ⟨h1, h2, h3⟩ := h.khi i x hx hn a ha
    exact ⟨h1, Nat.lt_of_lt_of_le h2 hf.size, h3⟩

theorem intsV_nil : intsV [] = [] := rfl

set_option maxRecDepth 100000 in
set_option maxHeartbeats 8000000 in
theorem Leaf_some (b : Nat) (l : List Tok) (u : Nat) (N : List Nd) (vn : Value) (w : World) (hl : l.length ≤ 100000) (hu : u < l.length) (hN : N.length ≤ 100000) (h : BldV w b l u N vn) :
    Calls Tryd.prog 21 #[.pointer (some ⟨b, 0, none⟩)] w (AddPost w b l (u + 1) N ⟨19, (u : Int), []⟩ vn) := by
  obtain ⟨pt, ct, K, h⟩ := h
  have hbox := h.box
  have HADD := Lib.hid (fun W (h : BldV W b l (u + 1) N vn) => add_c b l (u + 1) N vn ⟨19, (u : Int), []⟩ none 0 W hN h (.inl rfl) (fun h => absurd rfl h))
  obtain ⟨pv, cv, e1, -, -, -⟩ := h.own.is
  have HH := Lib.hid h
  obtain ⟨m, hm⟩ : ∃ m, l.length = m := ⟨_, rfl⟩
  rw [hm] at hbox hu hl
  have HP : Hid (∀ W e w', Fr2 (Turn b vn) w W → AddPost W b l (u + 1) N ⟨19, (u : Int), []⟩ vn e w' → AddPost w b l (u + 1) N ⟨19, (u : Int), []⟩ vn e w') := Lib.hid (fun _ _ _ h1 h2 => h2.after h1)
  have HF : Hid (∀ W, w.grownBy W none → Fr2 (Turn b vn) w (W.setCell ⟨b, 1, none⟩ (.int .i64 ((u + 1 : Nat) : Int))) ∧ BldV (W.setCell ⟨b, 1, none⟩ (.int .i64 ((u + 1 : Nat) : Int))) b l (u + 1) N vn) := Lib.hid (fun W hg => ⟨(Fr2.none hg).setCell (g := b) (j := 1) (.inl rfl) _, pt, ct, K, (HH.out.kept hg).setUsed (u + 1)⟩)
  obtain ⟨d0, d1, d2, d3⟩ := cells3' hbox
  have e1 : ((u : Int) == (m : Int)) = false := beq_eq_false_iff_ne.2 (by omega)
  have e2 : (u == m) = false := beq_eq_false_iff_ne.2 (by omega)
  have hw1 : IntKind.i64.wrap ((u : Int) + 1) = ((u + 1 : Nat) : Int) := by rw [IntWalk.i64_in _ (by omega)]; omega
  have hw2 : IntKind.i64.wrap (((u + 1 : Nat) : Int) - 1) = (u : Int) := by rw [IntWalk.i64_in _ (by omega)]; omega
  generalize AddPost w b l (u + 1) N ⟨19, (u : Int), []⟩ vn = Q at HP
  obtain ⟨u1, hu1⟩ : ∃ u1, u + 1 = u1 := ⟨_, rfl⟩
  rw [hu1] at hw1 hw2 HF HADD HP
  clear hbox hm h hu1
  go_enter Tryd.func21, Tryd.ntmps21
  go_wp2_with fail
  go_quiet (fail)
  go_wp2_with fail
  obtain ⟨hf1, hb1⟩ := HF.out (w.drewN nq) (gb_drewN (gb_refl _ _) _)
  refine (HADD.out _ hb1).mono ?_
  rintro e w' hp
  have HP1 := Lib.hid (HP.out _ _ _ hf1 hp)
  obtain rfl := hp.1
  clear hp hf1 hb1 HP HF HADD
  go_wp2_with fail
  exact HP1.out

set_option maxRecDepth 100000 in
set_option maxHeartbeats 8000000 in
theorem Node_none (b : Nat) (l : List Tok) (u : Nat) (N : List Nd) (vn : Value) (kind : Int) (kids : List Int) (q : Option Addr) (c : Nat) (w : World) (hN : N.length ≤ 100000) (hk : kids.length ≤ 100000) (h : BldV w b l u N vn) (hq : VAt w q (intsV kids)) (hno : okB N.length kids = false) :
    Calls Tryd.prog 22 #[.pointer (some ⟨b, 0, none⟩), .int .i64 kind, .slice q kids.length c] w (ValPost (.int .i64 (-1)) w) := by
  obtain ⟨pt, ct, K, h⟩ := h
  have hbox := h.box
  obtain ⟨pv, cv, e1, -, -, -⟩ := h.own.is
  rw [nds_len] at e1
  subst e1
  have HE := Lib.hid (eachBelow_c N.length kids q c w (by omega) (by omega) hq)
  rw [hno] at HE
  obtain ⟨m, hm⟩ : ∃ m, l.length = m := ⟨_, rfl⟩
  obtain ⟨M, hM⟩ : ∃ M, N.length = M := ⟨_, rfl⟩
  obtain ⟨kl, hkl⟩ : ∃ kl, kids.length = kl := ⟨_, rfl⟩
  rw [hm, hM] at hbox
  rw [hM, hkl] at HE
  rw [hkl]
  obtain ⟨d0, d1, d2, d3⟩ := cells3' hbox
  clear hbox hm h hM hkl hno hq hk hN
  go_enter Tryd.func22, Tryd.ntmps22
  go_wp2_with fail
  refine HE.out.mono ?_
  rintro e w1 ⟨rfl, hg⟩
  have HG := Lib.hid hg
  clear hg
  go_wp2_with fail
  go_ret
  exact ⟨rfl, HG.out⟩

set_option maxRecDepth 100000 in
set_option maxHeartbeats 8000000 in
theorem Node_some (b : Nat) (l : List Tok) (u : Nat) (N : List Nd) (vn : Value) (kind : Int) (kids : List Int) (q : Option Addr) (c : Nat) (w : World) (hN : N.length ≤ 100000) (hk : kids.length ≤ 100000) (h : BldV w b l u N vn) (hq : VAt w q (intsV kids)) (hok : okB N.length kids = true) :
    Calls Tryd.prog 22 #[.pointer (some ⟨b, 0, none⟩), .int .i64 kind, .slice q kids.length c] w (AddPost w b l u N ⟨kind, -1, kids⟩ vn) := by
  obtain ⟨pt, ct, K, h⟩ := h
  have hbox := h.box
  have HH := Lib.hid h
  have HADD := Lib.hid (fun W p' c' (h : BldV W b l u N vn) h1 h2 => add_c b l u N vn ⟨kind, -1, kids⟩ p' c' W hN h h1 h2)
  have HE := Lib.hid (eachBelow_c N.length kids q c w (by omega) (by omega) hq)
  rw [hok] at HE
  have HON := Lib.hid (fun W h => ownNode_c kind (-1) kids q c W hk h)
  have HQ := Lib.hid hq
  have HTN := Lib.hid h.turn
  have hbl := hlt' h.box
  have HBL := Lib.hid hbl
  have HP : Hid (∀ W e w', Fr2 (Turn b vn) w W → AddPost W b l u N ⟨kind, -1, kids⟩ vn e w' → AddPost w b l u N ⟨kind, -1, kids⟩ vn e w') := Lib.hid (fun _ _ _ h1 h2 => h2.after h1)
  obtain ⟨pv, cv, e1, -, -, -⟩ := h.own.is
  rw [nds_len] at e1
  obtain ⟨m, hm⟩ : ∃ m, l.length = m := ⟨_, rfl⟩
  obtain ⟨M, hM⟩ : ∃ M, N.length = M := ⟨_, rfl⟩
  obtain ⟨kl, hkl⟩ : ∃ kl, kids.length = kl := ⟨_, rfl⟩
  have HM := Lib.hid hM; have HKL := Lib.hid hkl
  rw [hM] at e1
  rw [hm, e1] at hbox
  rw [hM, hkl] at HE
  rw [hkl] at HON
  rw [hkl]
  generalize AddPost w b l u N ⟨kind, -1, kids⟩ vn = Q at HP
  obtain ⟨d0, d1, d2, d3⟩ := cells3' hbox
  clear hbox hm h hM hkl hok hq hk hN e1 hbl
  go_enter Tryd.func22, Tryd.ntmps22
  go_wp2_with fail
  refine HE.out.mono ?_
  rintro e w1 ⟨rfl, hg⟩
  have HG := Lib.hid hg
  clear hg HE
  go_wp2_with fail
  refine (HON.out _ (HQ.out.kept HG.out)).mono ?_
  rintro e w2 ⟨hg2, p2, c2, rfl, hv2, -, hb2⟩
  have HG2 := Lib.hid (gb_trans HG.out hg2)
  have HV2 := Lib.hid hv2
  have HB2 := Lib.hid hb2
  have hgs := HG.out.size
  have HGS := Lib.hid hgs
  rw [HKL.out]
  clear hg2 hv2 hb2 hgs HON
  go_wp2_with fail
  have HA := Lib.hid (HADD.out w2 p2 c2 ⟨pt, ct, K, HH.out.kept HG2.out⟩ HV2.out (fun hne a ha => by
    obtain ⟨h1, -⟩ := HB2.out hne a ha
    have h2 := HGS.out
    have h3 := HBL.out
    refine ⟨by omega, fun e => ?_⟩
    have := (HTN.out _ e).2
    omega))
  rw [HKL.out] at HA
  refine HA.out.mono ?_
  rintro e w' hp
  have HP1 := Lib.hid (HP.out _ _ _ (Fr2.none HG2.out) hp)
  obtain rfl := hp.1
  clear hp HP HADD HA
  go_wp2_with fail
  exact HP1.out
end Go.Proofs.YtdfegmdmappefaaDoor
