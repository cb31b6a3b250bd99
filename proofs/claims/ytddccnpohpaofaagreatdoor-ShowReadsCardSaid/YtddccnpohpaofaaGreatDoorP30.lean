/- Lemmas. -/
import Derived.Test.YtddccnpohpaofaaGreatDoorP42
set_option linter.unusedVariables false
set_option linter.unusedSimpArgs false
namespace Go.Proofs.YtddccnpohpaofaaGreatDoor
open Go.RowKit

section
variable {b bb : Nat} {T : List Tok} {D n : Nat} {A0 : Nat → Prop} {vn0 : Value} {w0 w w' : World} {s : St} {u : Nat} {N : List Nd} {vn : Value} {L : List (Value × Th)}
theorem KX.setIn (hk : KX b bb T D n A0 vn0 w0 w s u N vn L) (v : Bool) : KX b bb T D n A0 vn0 w0 (w.setCell ⟨b, 7, none⟩ (.bool v)) (setIn v s) u N vn L := by
  obtain ⟨A, h1, h2, h3, h4, h5⟩ := hk
  have hf : Fr2 (Self b) w (w.setCell ⟨b, 7, none⟩ (.bool v)) := (Fr2.refl _ _).setCell (mine b) _
  exact KX.go h2 h3 h4 h5 h1.lt (h1.turn (s' := Go.Proofs.YtddccnpohpaofaaGreatDoor.setIn v s) hf ((set_cells (i := 7) h1.box).trans rfl) h1.ok) (Step.self hf)
theorem KX.froz (hk : KX b bb T D n A0 vn0 w0 w s u N vn L) : ∀ o, w.frozen? ⟨b, o, none⟩ = false := by
  obtain ⟨A, h1, -⟩ := hk
  exact (cells10 h1.box).2.2.2.2.2.2.2.2.2.2
end
section
variable (b bb : Nat) (T : List Tok) (D : Nat)
--GEN

end
end Go.Proofs.YtddccnpohpaofaaGreatDoor
namespace Go.Proofs.YtddccnpohpaofaaGreatDoor
open Go.RowKit

/-- What taking the end leaves. -/
def EndIs (T : List Tok) (s : St) (N : List Nd) (v : Int) (u' : Nat) (N' : List Nd) : Prop :=
  ((kindT T 5 s).2.e = 0 → N' = N ++ [⟨19, (s.i : Int), []⟩] ∧ v = (N.length : Int) ∧ u' = s.i + 1 ∧ (kindT T 5 s).1 = [.lf s.i]) ∧ ((kindT T 5 s).2.e ≠ 0 → v = -1 ∧ N' = N ∧ u' = s.i)
def EPost (b bb : Nat) (T : List Tok) (D n : Nat) (s : St) (N : List Nd) (vn : Value) (A : Nat → Prop) (w : World) (e : Ending) (w' : World) : Prop :=
  ∃ (v : Int) (u' : Nat) (N' : List Nd) (vn' : Value), e = .returned (.int .i64 v) ∧ XAt w' b bb T D n (kindT T 5 s).2 u' N' vn' A ∧ Step b bb vn w vn' w' ∧ EndIs T s N v u' N'
/-- Of a whole reading. -/
def FinPost (b bb : Nat) (T : List Tok) (D kind : Nat) (s : St) (r : RT) (N : List Nd) (vn : Value) (A : Nat → Prop) (w : World) (e : Ending) (w' : World) : Prop :=
  ∃ (x : Int) (u : Nat) (N' : List Nd) (vn' : Value), e = .returned (.int .i64 x) ∧ XAt w' b bb T D 0 r.2 u N' vn' A ∧ Step b bb vn w vn' w' ∧ u ≤ T.length ∧ (r.2.e = 0 → N' = N ++ posts N.length [.nd kind r.1])

section
variable (b bb : Nat) (T : List Tok) (D n : Nat)

set_option maxRecDepth 100000 in
set_option maxHeartbeats 4000000 in
theorem endOf_c (hC : TokC T) (s : St) (N : List Nd) (vn : Value) (A : Nat → Prop) (w : World) (h : XAt w b bb T D n s s.i N vn A) :
    Calls Tryz.prog 45 #[.pointer (some ⟨b, 0, none⟩), .int .i64 5] w (EPost b bb T D n s N vn A w) := by
  have HA : Hid (Calls Tryz.prog 77 #[.pointer (some ⟨b, 0, none⟩), .int .i64 5] w (ValPost (.bool (decide (s.e = 0 ∧ (tokQ T s).kind = 5))) w)) := Lib.hid (atKind_c b bb T D n s s.i N vn A 5 w h)
  have HF := Lib.hid (fun w h => pfail_c b bb T D n 22 s s.i N vn A w h)
  have HX := Lib.hid h
  have HKT : Hid (kindT T 5 s = if s.e = 0 ∧ (tokQ T s).kind = 5 then leafT T s else ([], failQ T 22 s)) := Lib.hid rfl
  have HTK := Lib.hid (fun w h => take_c b bb T D n hC.len hC.short hC.ends s N vn A w h)
  clear h hC
  by_cases hc : s.e = 0 ∧ (tokQ T s).kind = 5
  · rw [decide_eq_true hc] at HA
    rw [if_pos hc] at HKT
    have HC := Lib.hid hc
    clear hc
    go_enter Tryz.func45, Tryz.ntmps45
    go_wp2_with fail
    refine HA.out.mono ?_
    rintro e w1 ⟨rfl, hg⟩
    have HX1 := Lib.hid (HX.out.kept hg); have HG := Lib.hid hg
    clear hg HA
    go_wp2_with fail
    refine (HTK.out _ HX1.out).mono ?_
    rintro e w2 ⟨vn', rfl, h1, h2⟩
    have HZ : Hid (EPost b bb T D n s N vn A w (.returned (.int .i64 (N.length : Int))) w2) := Lib.hid (by
      refine ⟨_, s.i + 1, _, vn', rfl, by rw [HKT.out]; exact h1, (Step.of HG.out).trans h2, ?_, ?_⟩
      · intro _; exact ⟨rfl, rfl, rfl, by rw [HKT.out]; rfl⟩
      · intro he; rw [HKT.out] at he; exact absurd (leaf_live T HC.out.1) he)
    clear h1 h2
    go_wp2_with fail
    go_ret
    exact HZ.out
  · rw [decide_eq_false hc] at HA
    rw [if_neg hc] at HKT
    clear hc
    go_enter Tryz.func45, Tryz.ntmps45
    go_wp2_with fail
    refine HA.out.mono ?_
    rintro e w1 ⟨rfl, hg⟩
    have HX1 := Lib.hid (HX.out.kept hg); have HG := Lib.hid hg
    clear hg HA
    go_wp2_with fail
    refine (HF.out _ HX1.out).mono ?_
    rintro e w2 ⟨rfl, h2, st2⟩
    have HZ : Hid (EPost b bb T D n s N vn A w (.returned (.int .i64 (-1))) w2) := Lib.hid (by
      refine ⟨-1, s.i, N, vn, rfl, by rw [HKT.out]; exact h2, (Step.of HG.out).trans st2, ?_, ?_⟩
      · intro he; rw [HKT.out] at he; exact absurd he (fail_e T (by decide) s)
      · intro _; exact ⟨rfl, rfl, rfl⟩)
    clear h2 st2
    go_wp2_with fail
    go_ret
    exact HZ.out
end

/-- Of all that was read: nodes and places. -/
def FinL (N0 : List Nd) (r : RT) (N : List Nd) (vs : List Int) : Prop := (r.2.e = 0 → N = N0 ++ posts N0.length r.1 ∧ vs = idxs N0.length r.1) ∧ (r.2.e ≠ 0 → (-1 : Int) ∈ vs)
section
variable {b bb : Nat} {T : List Tok} {D n : Nat} {A0 : Nat → Prop} {vn0 : Value} {w0 w w' : World} {s : St} {u : Nat} {N : List Nd} {vn : Value} {L : List (Value × Th)}
theorem FinL.of {k : Nat} {N0 N' : List Nd} {s0 : St} {a : RT} {vs : List Int} {v : Int} {u' : Nat} (h : OutL k N0 s0 a N vs) (he : EndIs T a.2 N v u' N') : FinL N0 (a.1 ++ (kindT T 5 a.2).1, (kindT T 5 a.2).2) N' (vs ++ [v]) := by
  refine ⟨fun e => ?_, fun e => ?_⟩
  · have ea : a.2.e = 0 := by
      rcases Nat.eq_zero_or_pos a.2.e with h9 | h9
      · exact h9
      · exact absurd e (by show ¬ (kindT T 5 a.2).2.e = 0; rw [(kind_keep T 5 a.2).dead (by omega)]; omega)
    obtain ⟨e1, e2, -⟩ := h.1 ea
    obtain ⟨f1, f2, f3, f4⟩ := he.1 e
    have hl : N.length = N0.length + szRs a.1 := by rw [e1, List.length_append, posts_len]
    rw [f4, posts_append, idxs_append, f1, f2, ← e2]
    refine ⟨?_, ?_⟩
    · rw [← List.append_assoc, ← e1]; simp [posts, post]
    · rw [hl]; simp [idxs, szR]
  · rw [(he.2 e).1]; exact List.mem_append_right _ (List.mem_singleton.2 rfl)
theorem KX.endOf (hk : KX b bb T D n A0 vn0 w0 w s s.i N vn L) (hC : TokC T) :
    Calls Tryz.prog 45 #[.pointer (some ⟨b, 0, none⟩), .int .i64 5] w fun e w' => ∃ (v : Int) (u' : Nat) (N' : List Nd) (vn' : Value), e = .returned (.int .i64 v) ∧ KX b bb T D n A0 vn0 w0 w' (kindT T 5 s).2 u' N' vn' L ∧ EndIs T s N v u' N' := by
  obtain ⟨A, h1, h2, h3, h4, h5⟩ := hk
  refine (endOf_c b bb T D n hC s N vn A w h1).mono ?_
  rintro e w' ⟨v, u', N', vn', rfl, g1, g2, g3⟩
  exact ⟨v, u', N', vn', rfl, KX.go h2 h3 h4 h5 h1.lt g1 g2, g3⟩
theorem KX.nodeEnd {kind : Nat} {v : Value} {vs : List Int} {N0 : List Nd} {r : RT} (hk : KX b bb T D n A0 vn0 w0 w r.2 u N vn L) (hm : (v, Th.ints vs) ∈ L) (hT : T.length ≤ 40000) (hu : u ≤ T.length) (hF : FinL N0 r N vs) (hl : vs.length ≤ 30000) (hr : r.2.e = 0 → N.length + 1 ≤ 2 * u) :
    Calls Tryz.prog 42 #[.pointer (some ⟨bb, 0, none⟩), .int .i64 (kind : Int), v] w fun e w' => ∃ (x : Int) (N' : List Nd) (vn' : Value), e = .returned (.int .i64 x) ∧ KX b bb T D n A0 vn0 w0 w' r.2 u N' vn' L ∧ (r.2.e = 0 → N' = N0 ++ posts N0.length [.nd kind r.1]) := by
  obtain ⟨p, c, rfl, hv, -, -⟩ := hk.list hm
  have hk2 := hk
  obtain ⟨A, h1, h2, h3, h4, h5⟩ := hk
  have hfew := h1.few
  by_cases he : r.2.e = 0
  · obtain ⟨e1, e2⟩ := hF.1 he
    have hok : okB N.length vs = true := okB_true fun j hj => by
      rw [e2] at hj
      have := idxs_in _ _ _ hj
      rw [e1, List.length_append, posts_len]; omega
    refine (Node_far A bb T u N vn (kind : Int) vs p c w (by omega) (by omega) h1.bld h1.new hv hok).mono ?_
    rintro e w' ⟨rfl, vn', g1, g2, g3⟩
    obtain ⟨hx, hst⟩ := h1.bump g1 g2 g3 (by rw [List.length_append]; exact hr he)
    refine ⟨_, _, vn', rfl, KX.go h2 h3 h4 h5 h1.lt hx hst, fun _ => ?_⟩
    simp only [posts, post, List.append_nil]
    rw [← List.append_assoc, ← e1, e2]
  · have hno : okB N.length vs = false := by
      obtain ⟨j, hj⟩ := List.getElem?_of_mem (hF.2 he)
      exact okB_false hj (by omega)
    refine (Node_none bb T u N vn (kind : Int) vs p c w (by omega) (by omega) h1.bld.bld hv hno).mono ?_
    rintro e w' ⟨rfl, hg⟩
    exact ⟨-1, N, vn, rfl, hk2.kept hg, fun e => absurd e he⟩
end

section
variable (T : List Tok) (D : Nat)
end

section
variable (b bb : Nat) (T : List Tok) (D : Nat)

end
end Go.Proofs.YtddccnpohpaofaaGreatDoor
namespace Go.Proofs.YtddccnpohpaofaaGreatDoor
open Go.RowKit

def DoneFar (l : List Tok) (N : List Nd) (w : World) (e : Ending) (w' : World) : Prop :=
  w.grownBy w' none ∧ ∃ pt ct pn cn K, e = .returned (.agg #[.slice pt l.length ct, .slice pn N.length cn]) ∧ TAt w' pt l ∧ l.length ≤ ct ∧ NodesAt w' pn N K ∧ (l ≠ [] → ∀ a, pt = some a → w.heap.size ≤ a.block) ∧ (N ≠ [] → ∀ a, pn = some a → w.heap.size ≤ a.block) ∧ FarK N K (fun k => w.heap.size ≤ k)

set_option maxRecDepth 100000 in
set_option maxHeartbeats 8000000 in
theorem Done_far (b : Nat) (l : List Tok) (u : Nat) (N : List Nd) (vn : Value) (w : World) (hl : l.length ≤ 100000) (hs : Short l) (hN : N.length ≤ 100000) (hkl : ∀ x ∈ N, x.kids.length ≤ 100000) (h : BldV w b l u N vn) :
    Calls Tryz.prog 41 #[.pointer (some ⟨b, 0, none⟩)] w (DoneFar l N w) := by
  obtain ⟨pt, ct, K, h⟩ := h
  have hbox := h.box
  have HT := Lib.hid (fun W h => ownTokens_c l pt ct W hl hs h)
  have HTA := Lib.hid h.toks
  obtain ⟨pv, cv, e1, hna, -, -, -⟩ := h.own.is
  rw [nds_len] at e1
  have HNA : Hid (NodesAt w pv N K) := Lib.hid ⟨hna, h.kids⟩
  have HLN : Hid (∀ v w' base, OwnG 4 98 w' base v (rowT l) → ∃ p c, v = .slice p l.length c ∧ TAt w' p l ∧ l.length ≤ c ∧ (l ≠ [] → ∀ a, p = some a → base ≤ a.block)) := Lib.hid (fun v w' base ho => by
    obtain ⟨p', c', e, ht, h1, -, h2⟩ := ho.is
    rw [rowT_len] at e h1
    exact ⟨p', c', e, t_of_g ht, h1, fun h0 => h2 (fun h3 => h0 (List.map_eq_nil_iff.1 h3))⟩)
  have HKL := Lib.hid hkl
  obtain ⟨m, hm⟩ : ∃ m, l.length = m := ⟨_, rfl⟩
  obtain ⟨M, hM⟩ : ∃ M, N.length = M := ⟨_, rfl⟩
  have HM := Lib.hid hM; have HLM := Lib.hid hm
  rw [hM] at e1 hN
  rw [hm, e1] at hbox
  rw [hm] at HT
  have HBX := Lib.hid hbox
  obtain ⟨d0, d1, d2, d3⟩ := cells3' hbox
  have hbw := hlt' hbox
  clear hbox hm hM h hna hkl e1 hs
  go_enter Tryz.func41, Tryz.ntmps41
  go_wp2_with fail
  have hR := heap_alloc_new w (.cells #[.slice none 0 0, .slice none 0 0] 42)
  have hgR := World.grownBy_alloc w (.cells #[.slice none 0 0, .slice none 0 0] 42) none
  have hsR : (w.alloc (.cells #[.slice none 0 0, .slice none 0 0] 42)).heap.size = w.heap.size + 1 := by simp
  generalize (w.alloc (.cells #[.slice none 0 0, .slice none 0 0] 42)) = W at *
  obtain ⟨B, hB⟩ : ∃ B, w.heap.size = B := ⟨_, rfl⟩
  have HBW := Lib.hid hB
  rw [hB] at hR hsR hbw ⊢
  have HR := Lib.hid hR; have HGR := Lib.hid hgR; have HSR := Lib.hid hsR
  clear hR hgR hB hsR d0 d1 d2 d3
  go_loopw [3, 11] (fun ov iv wr => ∃ (k : Nat) (K' : Kf), k ≤ M ∧ iv = .int .i64 k ∧ Hid (Nown wr (B + 1) ov (N.take k) K') ∧ Hid (Below (B + 1) W wr)) (fun _ v _ => M - (intOf v).toNat)
  case atStart => exact ⟨0, fun _ => (none, 0), Nat.zero_le _, rfl, Lib.hid ⟨OwnG.nil _ _ _ _, fun i x hx => by simp at hx, fun i x hx => by simp at hx⟩, Lib.hid (Below.refl _ _)⟩
  case round =>
    obtain ⟨k, K', hk, rfl, HO, HB⟩ := hrel
    have HGW : Hid (w.grownBy wr none) := Lib.hid (below_gb (Below.trans2 (Below.gb HGR.out (Nat.le_refl _)) (HB.out.mono (by rw [HBW.out]; omega))))
    have hBr : B + 1 ≤ wr.heap.size := by have := HB.out.size; have := HSR.out; omega
    by_cases hlt : k < M
    · have d1 : decide ((k : Int) < (M : Int)) = true := decide_eq_true (by omega)
      have d1' : decide (k < M) = true := decide_eq_true hlt
      obtain ⟨x, hx⟩ : ∃ x, N[k]? = some x := ⟨N[k]'(by rw [HM.out]; exact hlt), List.getElem?_eq_getElem _⟩
      obtain ⟨g, off, rfl, hgl, c0, c1, c2⟩ := node_at HNA.out hx
      have c0 := HGW.out.cell c0 (by simp)
      have c1 := HGW.out.cell c1 (by simp)
      have c2 := HGW.out.cell c2 (by simp)
      have HKA := Lib.hid (HNA.out.2 k x hx)
      have HTK : Hid (N.take (k + 1) = N.take k ++ [x]) := Lib.hid (by rw [List.take_add_one, hx]; rfl)
      have HTL : Hid ((ndsV K' (N.take k)).length = k) := Lib.hid (by rw [nds_len, List.length_take, HM.out]; omega)
      have HLE : Hid ((ndsV K' (N.take k)).length ≤ 1000000) := Lib.hid (by rw [HTL.out]; omega)
      have HON := Lib.hid (fun W q c h => ownNode_c x.kind x.tok x.kids q c W (HKL.out x (List.mem_of_getElem? hx)) h)
      obtain ⟨xk, hxk⟩ : ∃ xk, x.kind = xk := ⟨_, rfl⟩
      obtain ⟨xt, hxt⟩ : ∃ xt, x.tok = xt := ⟨_, rfl⟩
      obtain ⟨kl, hkl⟩ : ∃ kl, x.kids.length = kl := ⟨_, rfl⟩
      have HXK := Lib.hid hxk; have HXT := Lib.hid hxt; have HXL := Lib.hid hkl
      rw [hxk] at c0 HON
      rw [hxt] at c1 HON
      rw [hkl] at c2 HON
      clear hx hxk hxt hkl
      generalize K k = kk at *
      obtain ⟨kq, kc⟩ := kk
      simp only at c2 HKA
      have hgX := World.grownBy_alloc wr (.cells #[.int .i64 xk, .int .i64 xt, .slice kq kl kc] 110) none
      have HGX := Lib.hid hgX
      have hgw : g < wr.heap.size := Nat.lt_of_lt_of_le hgl HGW.out.size
      clear hgX
      go_wp2_with fail
      refine (HON.out _ kq kc (HKA.out.kept (gb_trans HGW.out HGX.out))).mono ?_
      rintro e w2 ⟨hg2, p2, c2', rfl, hv2, -, hb2⟩
      rw [HXL.out]
      have HV2 := Lib.hid hv2
      have HG2 := Lib.hid (gb_trans HGX.out hg2)
      have HN2 := Lib.hid (HO.out.kept HG2.out)
      have HB2 : Hid (x.kids ≠ [] → ∀ a, p2 = some a → B + 1 ≤ a.block ∧ u3.ownBlock ≠ some a.block) := Lib.hid (fun hn a ha => by
        have h1 := (hb2 hn a ha).1
        simp at h1
        refine ⟨by omega, fun e => ?_⟩
        have h2 := (OwnG.at HO.out.own _ e).2
        omega)
      have HBE := Lib.hid (Below.trans2 HB.out (Below.gb HG2.out hBr))
      have hB2 : B + 1 ≤ w2.heap.size := Nat.le_trans hBr HG2.out.size
      clear hg2 hv2 hb2 HO HB HGX c0 c1 c2
      go_wp2_with (at_builtin; go_loud (refine wpList_appGl (s := 3) (t := 40) (T := 110) (by decide) Tryz.underlying40 infoTN rfl (by omega) rfl _ _ rfl (B + 1) (ndsV K' (N.take k)) [.int .i64 xk, .int .i64 xt, .slice p2 kl c2'] rfl (fun u hu => by simp at hu; rcases hu with rfl | rfl | rfl <;> rfl) u3 rfl (OwnG.kept HN2.out.own (World.grownBy_alloc w2 _ none)) w2.heap.size _ rfl (heap_alloc_new w2 _) rfl HLE.out (by simp; omega) (w2.heap.size + 1) (by simp) ?_))
      intro g9 cap9 w9 hO9 hg9 hl9
      obtain ⟨K9, hN9⟩ := Nown.add (HN2.out.kept (World.grownBy_alloc w2 (.cells #[.int .i64 xk, .int .i64 xt, .slice p2 kl c2'] 110) none)) hg9 (x := x) (p := p2) (c := c2') (by rw [HXK.out, HXT.out, HXL.out]; exact hO9) (HV2.out.kept (World.grownBy_alloc w2 _ none)) HB2.out (hl9.imp id (fun h => by simp; omega))
      rw [← HTK.out] at hN9
      have HN9 := Lib.hid hN9
      have HB9 := Lib.hid ((Below.trans2 HBE.out (Below.gb (World.grownBy_alloc w2 _ none) hB2)).grown hg9 (by simp; omega) (fun k e => (OwnG.at HN2.out.own k e).1))
      rw [HTL.out] at HN9 ⊢
      clear hO9 hg9 hl9 hN9 HN2 HBE
      go_wp2_with fail
      go_roundw
      case rel => exact ⟨k + 1, K9, by omega, by go_num, HN9, HB9⟩
      case measure => (simp [intOf] <;> omega)
    · obtain rfl : k = M := by omega
      rw [List.take_of_length_le (l := N) (i := k) (by rw [HM.out]; exact Nat.le_refl _)] at HO
      obtain ⟨pn, cn, en, hnn, -, -, -⟩ := HO.out.own.is
      rw [nds_len, HM.out] at en
      subst en
      have HNN : Hid (NodesAt wr pn N K') := Lib.hid ⟨hnn, HO.out.kids⟩
      have HPB : Hid (∀ a, pn = some a → k ≠ 0 → B + 1 ≤ a.block) := Lib.hid (fun a ha h0 => by
        obtain ⟨a', h1, h2, -⟩ := OwnG.lt HO.out.own rfl (p := pn) (n := k) (c := cn) (by omega)
        rw [ha] at h1; cases h1; exact h2)
      obtain ⟨d0, d1, d2, d3⟩ := cells3' (bx HGW.out HBX.out)
      have HR1 := Lib.hid ((HB.out.block B (by omega)).trans HR.out)
      clear hnn
      go_wp2_with fail
      refine (HT.out wr (HTA.out.kept HGW.out)).mono ?_
      rintro e w2 ⟨v, rfl, ho, hg⟩
      obtain ⟨p2, c2, rfl, ht2, hc2, hpb2⟩ := HLN.out _ _ _ ho
      have HT2 := Lib.hid ht2; have HC2 := Lib.hid hc2; have HPB2 := Lib.hid hpb2
      have HG2 := Lib.hid hg
      rw [HLM.out]
      have HR2 := Lib.hid (bx hg HR1.out)
      obtain ⟨f0, f1, f2⟩ := cells2 HR2.out
      have HR3 := Lib.hid (set_cells (i := 1) (u := .slice pn k cn) (set_cells (i := 0) (u := .slice p2 m c2) HR2.out))
      have HF3 := Lib.hid ((Fr2.setCell (S := fun k => k = B) (Fr2.refl _ w2) (g := B) (j := 0) rfl (.slice p2 m c2)).setCell (g := B) (j := 1) rfl (.slice pn k cn))
      clear ho ht2 hc2 hpb2 hg d0 d1 d2 d3
      go_wp2_with fail
      obtain ⟨k0, k1, -⟩ := cells2 HR3.out
      refine bodyPost_ret (v := .agg #[.slice p2 m c2, .slice pn k cn]) (by simp [results, Tryz.results41, go_sem, k0, k1]) rfl ⟨Fr2.after (gb_trans HGW.out HG2.out) HF3.out (fun j hj => by rw [HBW.out]; omega), p2, c2, pn, cn, K', by rw [HLM.out, HM.out], HT2.out.keptF HF3.out (fun h0 a ha e => by have := HPB2.out h0 a ha; omega), HC2.out, ⟨?_, fun i x hx => ?_⟩, fun h0 a ha => by have h1 := HPB2.out h0 a ha; have h2 := HBW.out; have h3 := HGW.out.size; omega, fun h0 a ha => by have h1 := HPB.out a ha (fun e0 => h0 (List.length_eq_zero_iff.1 (by rw [HM.out]; exact e0))); have h2 := HBW.out; omega, fun i x hx hn a ha => by have h1 := (HO.out.khi i x hx hn a ha).1; have h2 := HBW.out; omega⟩
      · refine GAt.keptS (HNN.out.1.kept HG2.out) HF3.out fun h0 a ha e => ?_
        have h1 := HPB.out a ha (fun e0 => h0 (List.length_eq_zero_iff.1 (by rw [nds_len, HM.out]; exact e0)))
        omega
      · refine ((HNN.out.2 i x hx).kept HG2.out).keptF HF3.out fun h0 a ha e => ?_
        have h1 := (HO.out.khi i x hx (intsV_ne h0) a ha).1
        omega

/-- The eight cells, each by its kind. -/
theorem EAt.form {F : Nat → Prop} {w : World} {x : Ex} {q : List Value} (h : EAt F w x q) : ∃ (op ps : Int) (a b : ByteArray) (s y : Bool) (p p' : Option Addr) (n c n' c' : Nat), q = [.int .i64 op, .string a, .string b, .bool s, .slice p n c, .bool y, .slice p' n' c', .int .i64 ps] := by
  cases x with
  | mk op nm md nu ys ks ps =>
    simp only [EAt] at h
    obtain ⟨s, pw, nw, cw, pk, ck, rows, rfl, -⟩ := h
    exact ⟨_, _, _, _, _, _, _, _, _, _, _, _, rfl⟩


theorem kids_at {B be nv cv nd nk ck nw cw : Nat} {W1 W5 W7 : World} {pv pk pw : Option Addr} {o1 o2 : List Sx} {r1 r2 : List (List Value)} {op : Int} {nm md : List UInt8} {nu : Int} {s ys : Bool} {sn sm : ByteArray}
    (hsn : (⟨nm.toArray⟩ : ByteArray) = sn) (hsm : (⟨md.toArray⟩ : ByteArray) = sm)
    (hOW : StkAt B W1 (.slice pv nv cv) (o1 ++ o2) (r1 ++ r2)) (hr1 : r1.length = nd) (ho1 : o1.length = nd) (hI : Zd.IsInt W5 (.agg #[.bool s, .slice pw nw cw]) nu) (hIF : 0 < nw → ∃ a, pw = some a ∧ be < a.block ∧ a.block < W5.heap.size)
    (hbe : W5.heap[be]? = some (.cells #[.int .i64 op, .string sn, .string sm, .bool s, .slice pw nw cw, .bool ys, .slice none 0 0, .int .i64 0] 30 (0, 0))) (hz : W1.heap.size = be) (hg5 : W1.grownBy W5 none) (hB : B ≤ be)
    (hO7 : OwnG 8 30 W7 W5.heap.size (.slice pk nk ck) r2) (hg7 : (W5.alloc (.cells #[] 30)).grownBy W7 (some W5.heap.size)) :
    W7.heap[be]? = some (.cells #[.int .i64 op, .string sn, .string sm, .bool s, .slice pw nw cw, .bool ys, .slice none 0 0, .int .i64 0] 30 (0, 0)) ∧
    (W7.setCell ⟨be, 6, none⟩ (.slice pk nk ck)).heap[be]? = some (.cells #[.int .i64 op, .string sn, .string sm, .bool s, .slice pw nw cw, .bool ys, .slice pk nk ck, .int .i64 0] 30 (0, 0)) ∧
    W1.grownBy (W7.setCell ⟨be, 6, none⟩ (.slice pk nk ck)) none ∧ StkAt B (W7.setCell ⟨be, 6, none⟩ (.slice pk nk ck)) (.slice pv nv cv) (o1 ++ o2) (r1 ++ r2) ∧
    SAt (fun k => B ≤ k ∧ k < (W7.setCell ⟨be, 6, none⟩ (.slice pk nk ck)).heap.size ∧ (Value.slice pv nv cv).ownBlock ≠ some k) (W7.setCell ⟨be, 6, none⟩ (.slice pk nk ck)) (.mk op nm md nu ys o2 0) [.int .i64 op, .string sn, .string sm, .bool s, .slice pw nw cw, .bool ys, .slice pk nk ck, .int .i64 0] ∧
    OwnG 8 30 (W7.setCell ⟨be, 6, none⟩ (.slice pk nk ck)) B (.slice pv nd cv) r1 := by
  have hg6 := World.grownBy_alloc W5 (.cells #[] 30) none
  have hg57 : W5.grownBy W7 none := fr_after hg6 (Fr2.of (S := fun k => k = W5.heap.size) hg7 (fun k e => (Option.some.inj (show some W5.heap.size = some k from e)).symm)) (fun i hi => by have hi : i = W5.heap.size := hi; omega)
  have hb7 := bx hg57 hbe
  have hbe5 : be < W5.heap.size := hlt hbe
  have hs8 : (W7.setCell ⟨be, 6, none⟩ (.slice pk nk ck)).heap[be]? = some (.cells #[.int .i64 op, .string sn, .string sm, .bool s, .slice pw nw cw, .bool ys, .slice pk nk ck, .int .i64 0] 30 (0, 0)) := set_cells (i := 6) (u := .slice pk nk ck) hb7
  have hf8 : Fr2 (fun k => k = be) W7 (W7.setCell ⟨be, 6, none⟩ (.slice pk nk ck)) := (Fr2.refl (fun k => k = be) W7).setCell (rfl : (fun k => k = be) be) _
  have hg8 : W1.grownBy (W7.setCell ⟨be, 6, none⟩ (.slice pk nk ck)) none := fr_after (gb_trans hg5 hg57) hf8 (fun i hi => by have hi : i = be := hi; omega)
  have how8 := hOW.kept hg8
  have hsz8 : W7.heap.size ≤ (W7.setCell ⟨be, 6, none⟩ (.slice pk nk ck)).heap.size := hf8.size
  have hsz57 := hg57.size
  have hown : ∀ k, (Value.slice pv nv cv).ownBlock = some k → k < be := fun k e => by have := (OwnG.at hOW.1 k e).2; omega
  refine ⟨hb7, hs8, hg8, how8, ?_, by have := OwnG.takeS r2 _ how8.1; rwa [hr1] at this⟩
  have hx := made_at (B := 0) (v := .slice none 0 0) (F := fun k => B ≤ k ∧ k < (W7.setCell ⟨be, 6, none⟩ (.slice pk nk ck)).heap.size ∧ (Value.slice pv nv cv).ownBlock ≠ some k) (op := op) (nm := nm) (md := md) (nu := nu) (ys := ys) (s := s) (pw := pw) (nw := nw) (cw := cw) (o := o2) (rows := r2)
    (int_sameS (hI.kept hg57) hf8 (fun h0 a ha e => by obtain ⟨a', ha', h1, -⟩ := hIF h0; rw [ha] at ha'; injection ha' with ha'; subst ha'; have e : a.block = be := e; omega))
    (fun h0 => by
      obtain ⟨a, ha, h1, h2⟩ := hIF h0
      exact ⟨a, ha, by omega, by omega, fun e => by have := hown _ e; omega⟩)
    (OwnG.keptF hO7 hf8 (fun k e e2 => by have := (OwnG.at hO7 k e).1; have e2 : k = be := e2; omega))
    (by
      obtain ⟨x1, x2, e, h1, h2⟩ := LsS.split how8.2.1
      have hl : x1.length = r1.length := by rw [h1.len, ho1, hr1]
      have ha : x2 = r2 := (List.append_inj e hl.symm).2.symm
      subst ha
      exact h2)
    (fun k h1 h2 => ⟨by omega, h2, fun e => by have := hown _ e; omega⟩)
  unfold strV at hx
  rw [hsn, hsm] at hx
  exact hx
/-- The stack behind the push. -/
theorem push_fin {B n nd n9 c g' cap' H : Nat} {W W8 Wx w9 : World} {p : Option Addr} {o1 o2 : List Sx} {r1 r2 : List (List Value)} {x : Sx} {q : List Value} (h : StkAt B W8 (.slice p n c) (o1 ++ o2) (r1 ++ r2)) (hr1 : r1.length = nd) (ho1 : o1.length = nd)
    (hx : SAt (fun k => B ≤ k ∧ k < W8.heap.size ∧ (Value.slice p n c).ownBlock ≠ some k) W8 x q) (hgx : W8.grownBy Wx none) (hO : OwnG 8 30 w9 B (.slice (some ⟨g', 0, none⟩) n9 cap') (r1 ++ [q])) (hg : Wx.grownBy w9 (Value.slice p nd c).ownBlock) (hH : (Value.slice p nd c).ownBlock = some g' ∨ g' = H) (hHw : Wx.heap.size ≤ H) (hW : W.grownBy W8 none) (hWB : W.heap.size ≤ B) :
    StkAt B w9 (.slice (some ⟨g', 0, none⟩) n9 cap') (o1 ++ [x]) (r1 ++ [q]) ∧ W.grownBy w9 none := by
  subst hr1
  refine ⟨StkAt.push (h.kept hgx) ho1.symm (SAt.mono (fun k hk => ⟨hk.1, Nat.lt_of_lt_of_le hk.2.1 hgx.size, hk.2.2⟩) (hx.kept hgx)) hO hg hH hHw, ?_⟩
  exact fr_after (gb_trans hW hgx) (Fr2.of (S := fun k => (Value.slice p r1.length c).ownBlock = some k) hg (fun k e => e)) (fun i hi => by
    have e : (Value.slice p n c).ownBlock = some i := by cases p <;> exact hi
    have := (OwnG.at h.1 i e).1; omega)
theorem okSs_app : ∀ {a b : List Sx}, okSs (a ++ b) ↔ okSs a ∧ okSs b
  | [], b => by simp [okSs]
  | x :: a, b => by simp only [List.cons_append, okSs, okSs_app (a := a) (b := b), and_assoc]
theorem numC_lim (c : Cl) : (numC c).natAbs < Zd.Lim := by
  unfold numC
  split
  · exact Zd.parseV_lim _
  · unfold Zd.Lim; exact Nat.pow_pos (by unfold Zd.Bw; omega)
theorem stepC_ok {o : List Sx} {c : Cl} (h : okSs o) (hf : fitsC c = true) : okSs (stepC o c) := by
  unfold stepC
  have h2 := h
  rw [← List.take_append_drop (o.length - takesC c) o] at h2
  have h3 := okSs_app.1 h2
  refine okSs_app.2 ⟨h3.1, ?_⟩
  unfold fitsC at hf
  simp only [Bool.and_eq_true] at hf
  have h4 := of_decide_eq_true hf.1.1
  have h5 := of_decide_eq_true hf.1.2
  simp only [okSs, okS, and_true]
  exact ⟨⟨by omega, by omega, numC_lim c⟩, h3.2⟩
theorem foldC_ok : ∀ (l : List Cl) (o : List Sx), okSs o → l.all fitsC = true → okSs (l.foldl stepC o)
  | [], o, h, _ => h
  | c :: l, o, h, hf => by
    simp only [List.all_cons, Bool.and_eq_true] at hf
    exact foldC_ok l _ (stepC_ok h hf.1) hf.2
theorem stackC_ok {l : List Cl} (h : l.all fitsC = true) : okSs (stackC l) := foldC_ok l [] (by simp [okSs]) h
theorem bothC_ok {l : List Cl} {x : Sx} (h : bothC l = some x) : okS x := by
  unfold bothC at h
  split at h
  · cases h
  · split at h
    · rename_i hf
      have h1 := stackC_ok hf
      rcases list_lastS (stackC l) with ho | ⟨o1, y, ho⟩
      · rw [ho] at h; cases h
      · rw [ho] at h h1
        rw [List.getLast?_append] at h
        have : y = x := by simpa using h
        subst this
        have := (okSs_app.1 h1).2
        simp only [okSs, and_true] at this
        exact this
    · cases h

def cval (c : Cl) : Value := .agg #[.int .i64 c.op, .int .i64 c.kids, strV c.nm, strV c.md, strV c.nu, .bool c.ys]
set_option maxRecDepth 100000 in
set_option maxHeartbeats 16000000 in
theorem takes_c (c : Cl) (w : World) (hk : -9223372036854775808 ≤ c.kids ∧ c.kids < 9223372036854775808) : Calls Tryz.prog 13 #[cval c] w (NumPost (takesC c) w) := by
  obtain ⟨T, hT⟩ : ∃ T, takesC c = T := ⟨_, rfl⟩
  have HT := Lib.hid hT
  rw [hT]
  obtain ⟨op, kids, nm, md, nu, ys⟩ := c
  unfold takesC at hT
  unfold cval strV
  simp only at hT hk ⊢
  by_cases h4 : op ≤ 4
  · rw [if_pos (.inl h4)] at hT
    subst hT
    have d4 : decide (op ≤ 4) = true := decide_eq_true h4
    clear h4 HT
    go_enter Tryz.func13, Tryz.ntmps13
    go_wp2
    go_ret
    exact ⟨rfl, (by repeat (first | with_reducible exact gb_refl _ _ | with_reducible refine gb_drew ?_ | with_reducible refine gb_alloc ?_ _))⟩
  have d4 : decide (op ≤ 4) = false := decide_eq_false h4
  by_cases h24 : 24 < op
  · rw [if_pos (.inr h24)] at hT
    subst hT
    have d24 : decide (24 < op) = true := decide_eq_true h24
    clear h4 h24 HT
    go_enter Tryz.func13, Tryz.ntmps13
    go_wp2
    go_ret
    exact ⟨rfl, (by repeat (first | with_reducible exact gb_refl _ _ | with_reducible refine gb_drew ?_ | with_reducible refine gb_alloc ?_ _))⟩
  have d24 : decide (24 < op) = false := decide_eq_false h24
  rw [if_neg (by omega)] at hT
  by_cases h6 : op ≤ 6
  · rw [if_pos h6] at hT
    subst hT
    have d6 : decide (op ≤ 6) = true := decide_eq_true h6
    clear h4 h24 h6 HT
    go_enter Tryz.func13, Tryz.ntmps13
    go_wp2
    go_ret
    exact ⟨rfl, (by repeat (first | with_reducible exact gb_refl _ _ | with_reducible refine gb_drew ?_ | with_reducible refine gb_alloc ?_ _))⟩
  have d6 : decide (op ≤ 6) = false := decide_eq_false h6
  rw [if_neg h6] at hT
  by_cases h21 : op = 21
  · subst h21
    rw [if_pos rfl] at hT
    subst hT
    clear h4 h24 h6 HT d4 d6 d24
    go_enter Tryz.func13, Tryz.ntmps13
    go_wp2
    go_ret
    exact ⟨rfl, (by repeat (first | with_reducible exact gb_refl _ _ | with_reducible refine gb_drew ?_ | with_reducible refine gb_alloc ?_ _))⟩
  rw [if_neg h21] at hT
  have e21 : (op == 21) = false := beq_eq_false_iff_ne.2 h21
  by_cases hc : op = 24
  · subst hc
    rw [if_pos rfl] at hT
    have HT2 : Hid ((T : Int) = min (max kids 0) 9) := Lib.hid (by omega)
    clear h4 h24 h6 h21 e21 HT hT d4 d6 d24
    go_enter Tryz.func13, Tryz.ntmps13
    go_wp2
    go_ret
    exact ⟨by rw [HT2.out]; rfl, (by repeat (first | with_reducible exact gb_refl _ _ | with_reducible refine gb_drew ?_ | with_reducible refine gb_alloc ?_ _))⟩
  · rw [if_neg hc] at hT
    subst hT
    have e24 : (op == 24) = false := beq_eq_false_iff_ne.2 hc
    clear h4 h24 h6 h21 hc HT
    go_enter Tryz.func13, Tryz.ntmps13
    go_wp2
    go_ret
    exact ⟨rfl, (by repeat (first | with_reducible exact gb_refl _ _ | with_reducible refine gb_drew ?_ | with_reducible refine gb_alloc ?_ _))⟩

theorem tbSs_append (a b : List Sx) : tbSs (a ++ b) = tbSs a + tbSs b := by
  induction a with
  | nil => simp [tbSs]
  | cons x l ih => simp only [List.cons_append, tbSs, ih]; omega
theorem wgSs_append (a b : List Sx) : wgSs (a ++ b) = wgSs a + wgSs b := by
  induction a with
  | nil => simp [wgSs]
  | cons x l ih => simp only [List.cons_append, wgSs, ih]; omega
theorem numC_txt {c : Cl} (h : fitsC c = true) : (Zd.txtL (numC c)).length ≤ 80 := by
  have hz : (Zd.txtL 0).length ≤ 80 := by unfold Zd.txtL; rw [if_pos rfl]; simp
  unfold fitsC at h
  simp only [Bool.and_eq_true] at h
  have h3 := of_decide_eq_true h.2
  unfold numC
  split
  · by_cases hE : Zd.parseE c.nu = 0
    · rw [Zd.txtL_parse hE]; exact h3
    · have : Zd.parseV c.nu = 0 := by unfold Zd.parseV; rw [if_neg hE]
      rw [this]; exact hz
  · exact hz
theorem stepC_bnd {o : List Sx} {c : Cl} (h : fitsC c = true) : tbSs (stepC o c) ≤ tbSs o + 304 ∧ wgSs (stepC o c) = wgSs o + 8 := by
  have h1 := tbSs_append (o.take (o.length - takesC c)) (o.drop (o.length - takesC c))
  have h2 := wgSs_append (o.take (o.length - takesC c)) (o.drop (o.length - takesC c))
  rw [List.take_append_drop] at h1 h2
  have h3 := numC_txt h
  unfold fitsC at h
  simp only [Bool.and_eq_true] at h
  have h4 := of_decide_eq_true h.1.1
  have h5 := of_decide_eq_true h.1.2
  unfold stepC
  rw [tbSs_append, wgSs_append, h1, h2]
  simp only [tbSs, tbS, wgSs, wgS]
  omega
theorem foldC_bnd : ∀ (l : List Cl) (o : List Sx), l.all fitsC = true → tbSs (l.foldl stepC o) ≤ tbSs o + 304 * l.length ∧ wgSs (l.foldl stepC o) = wgSs o + 8 * l.length
  | [], o, _ => by simp
  | c :: l, o, h => by
    simp only [List.all_cons, Bool.and_eq_true] at h
    have h1 := foldC_bnd l (stepC o c) h.2
    have h2 := stepC_bnd (o := o) h.1
    rw [List.foldl_cons, List.length_cons]
    omega
theorem wgSs_mem : ∀ {l : List Sx} {j : Nat} {x : Sx}, l[j]? = some x → wgS x ≤ wgSs l
  | [], j, x, h => by simp at h
  | y :: l, 0, x, h => by simp at h; subst h; simp only [wgSs]; omega
  | y :: l, j + 1, x, h => by
    have := wgSs_mem (l := l) (j := j) (x := x) (by simpa using h)
    simp only [wgSs]; omega
theorem bothC_bnd {l : List Cl} {x : Sx} (h : bothC l = some x) : tbS x ≤ 10000 ∧ wgS x ≤ 500 := by
  unfold bothC at h
  split at h
  · cases h
  · rename_i h30
    split at h
    · rename_i hf
      have h1 : x ∈ stackC l := List.mem_of_getLast? h
      obtain ⟨j, hj, rfl⟩ := List.getElem_of_mem h1
      have h2 := tbSs_mem (List.getElem?_eq_getElem hj)
      have h3 := wgSs_mem (List.getElem?_eq_getElem hj)
      have h4 := foldC_bnd l [] hf
      unfold stackC at h2 h3 ⊢
      simp only [tbSs, wgSs] at h4
      omega
    · cases h

/-- What a function that is told does, and what it needs. -/
structure Tell {σ : Type} (st : σ → Ex → Nat → σ) (tf b B : Nat) (F : Nat → Prop) (P : σ → World → Prop) (L : σ → Prop) (Q : Ex → Prop) : Prop where
  below : ∀ k, F k → k < B
  box : B ≤ b
  tell : ∀ (s : σ) (f : Fm) (w : World), P s w → B ≤ w.heap.size → PAtE F w f.g f.o f.x → f.d ≤ (kidsE f.x).length → Q f.x → L (st s f.x f.d) → Calls Tryz.prog tf #[.pointer (some ⟨f.g, f.o, none⟩), .int .i64 (f.d : Int), .pointer (some ⟨b, 0, none⟩)] w (fun e w' => e = .returned (.tuple #[]) ∧ P (st s f.x f.d) w' ∧ Below B w w' ∧ OKept b w w')
  mono : ∀ s x d, L (st s x d) → L s
  kids : ∀ x k, Q x → k ∈ kidsE x → Q k
  grown : ∀ s w w', P s w → w.grownBy w' none → P s w'
  placed : ∀ s w w' g cs, P s w → w.grownBy w' (some g) → w.heap[g]? = some (.cells cs 112 (0, 0)) → g ≠ b → P s w'
theorem Tell.at {σ : Type} {st : σ → Ex → Nat → σ} {tf b B : Nat} {F : Nat → Prop} {P : σ → World → Prop} {L : σ → Prop} {Q : Ex → Prop} (h : Tell st tf b B F P L Q) {w w' : World} {g o : Nat} {x : Ex} (hp : PAtE F w g o x) (hb : Below B w w') : PAtE F w' g o x :=
  hp.same (Fr2.ofBelow hb) (fun k hk e => by have := h.below k hk; omega)

mutual
theorem runE_mono {σ : Type} {st : σ → Ex → Nat → σ} {L : σ → Prop} (hm : ∀ s x d, L (st s x d) → L s) : ∀ (x : Ex) (s : σ), L (runE st x s) → L s
  | .mk op nm md nu ys ks ps, s, h => by
    simp only [runE] at h
    exact hm _ _ _ (runK_mono hm _ _ ks _ h)
theorem runK_mono {σ : Type} {st : σ → Ex → Nat → σ} {L : σ → Prop} (hm : ∀ s x d, L (st s x d) → L s) (x : Ex) : ∀ (j : Nat) (l : List Ex) (s : σ), L (runK st x j l s) → L s
  | _, [], s, h => by simp only [runK] at h; exact h
  | j, k :: l, s, h => by
    simp only [runK] at h
    exact runE_mono hm k s (hm _ _ _ (runK_mono hm x (j + 1) l _ h))
end
theorem runG_mono {σ : Type} {st : σ → Ex → Nat → σ} {L : σ → Prop} (hm : ∀ s x d, L (st s x d) → L s) : ∀ (G : List Fm) (s : σ), L (runG st G s) → L s
  | [], s, h => h
  | f :: G, s, h => by
    have e : runG st (f :: G) s = rsF st f (runG st G s) := rfl
    rw [e] at h
    exact runG_mono hm G s (hm _ _ _ (runK_mono hm _ _ _ _ h))
/-- What is told next stays within what is told in the end. -/
theorem next_mono {σ : Type} {st : σ → Ex → Nat → σ} {L : σ → Prop} (hm : ∀ s x d, L (st s x d) → L s) {G : List Fm} {f : Fm} {s : σ} (h : L (runG st (G ++ [f]) s)) : L (st s f.x f.d) := by
  rw [runG_snoc] at h
  exact runK_mono hm _ _ _ _ (runG_mono hm G _ h)
end Go.Proofs.YtddccnpohpaofaaGreatDoor
namespace Go.Proofs.YtddccnpohpaofaaGreatDoor.showReads
open Go.ChangeShapes Go.WideShapes Go.ChangeAt Go.RowKit

theorem k1 : (Rows.showReadsRow.inPlace == Tryz.prog.inPlace 3) = true := by kernel_rfl
theorem k2 : (Rows.showReadsRow.unfollowed == Tryz.prog.unfollowed 3) = true := by kernel_rfl
theorem k3 : (Rows.showReadsRow.recurses == Tryz.prog.recurses 3) = true := by kernel_rfl
theorem k4 : (Rows.showReadsRow.named == Tryz.prog.varsNamed 3) = true := by kernel_rfl
theorem k5 : laidOutB Tryz.prog = true := by kernel_rfl
theorem k6 : mapsRowed Tryz.prog = true := by kernel_rfl
theorem k7 : Rows.showReadsRow.wf (OpenSpec.ofChange Rows.showReadsSpec) = true := by kernel_rfl
theorem closed : joinedFacts Tryz.prog 3 Tryz.f3 Rows.showReadsSpec Rows.showReadsRow = true := by
  unfold joinedFacts
  simp only [Bool.and_eq_true]
  repeat' apply And.intro
  all_goals first
    | with_reducible exact k1
    | with_reducible exact k2
    | with_reducible exact k3
    | with_reducible exact k4
    | with_reducible exact k5
    | with_reducible exact k6
    | with_reducible exact k7
    | kernel_rfl
end Go.Proofs.YtddccnpohpaofaaGreatDoor.showReads
