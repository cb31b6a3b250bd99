/- The program's parser: what is taken, what must come. -/
import Derived.Test.YtmlcpihedmmlfaaGreatDoorK24
set_option linter.unusedVariables false
set_option linter.unusedSimpArgs false
namespace Go.Proofs.YtmlcpihedmmlfaaGreatDoor
open Go.RowKit

/-- What a call that answers a place does. -/
def IPost (b bb : Nat) (T : List Tok) (D n k : Nat) (s : St) (r : RT) (N : List Nd) (vn : Value) (A : Nat → Prop) (w : World) (e : Ending) (w' : World) : Prop :=
  ∃ (v : Int) (N' : List Nd) (vn' : Value), e = .returned (.int .i64 v) ∧ XAt w' b bb T D n r.2 r.2.i N' vn' A ∧ Step b bb vn w vn' w' ∧ OutD k N s r N' [v] ∧ (s.e ≠ 0 → r.2.e ≠ 0)
theorem IPost.eqv {b bb : Nat} {T : List Tok} {D n k : Nat} {s : St} {r r' : RT} {N : List Nd} {vn : Value} {A : Nat → Prop} {w : World} {e : Ending} {w' : World} (h : IPost b bb T D n k s r N vn A w e w') (he : Eqv r r') : IPost b bb T D n k s r' N vn A w e w' := by
  obtain ⟨v, N', vn', h1, h2, h3, h4, h5⟩ := h
  exact ⟨v, N', vn', h1, he.1 ▸ h2, h3, h4.eqv he, fun h => by rw [← he.1]; exact h5 h⟩
/-- Ahead of it the world went from w0 to w. -/
theorem IPost.after {b bb : Nat} {T : List Tok} {D n k : Nat} {s : St} {r : RT} {N : List Nd} {vn : Value} {A : Nat → Prop} {w0 w : World} {e : Ending} {w' : World} (h : IPost b bb T D n k s r N vn A w e w') (hs : Step b bb vn w0 vn w) : IPost b bb T D n k s r N vn A w0 e w' := by
  obtain ⟨v, N', vn', h1, h2, h3, h4, h5⟩ := h
  exact ⟨v, N', vn', h1, h2, hs.trans h3, h4, h5⟩

/-- The builder has a node more. -/
theorem XAt.bump {w w' : World} {b bb : Nat} {T : List Tok} {D n : Nat} {s : St} {u u' : Nat} {N N' : List Nd} {vn vn' : Value} {A : Nat → Prop} (h : XAt w b bb T D n s u N vn A) (hb : FarV w' bb T u' N' vn' A) (hf : Fr2 (Turn bb vn) w w') (ho : ∀ k, vn'.ownBlock = some k → vn.ownBlock = some k ∨ w.heap.size ≤ k) (hN : N'.length ≤ 2 * u') : XAt w' b bb T D n s u' N' vn' A ∧ Step b bb vn w vn' w' := by
  have hw := h.lt'
  refine ⟨⟨hf.keep h.box (fun e => ?_), hb, h.far, fun k hk => h.new k (Nat.le_trans hf.size hk), h.lt, fun k e => ⟨?_, ?_⟩, h.ok, hN⟩, ⟨⟨hf.os, hf.tape, hf.output, hf.size, fun k hk hn => hf.block k hk (fun e => hn (e.elim (fun h => .inr (.inl h)) (fun h => .inr (.inr h))))⟩, ho⟩⟩
  · have h1 := h.lt
    rcases e with e | e
    · omega
    · have := (h.own _ e).1; omega
  · rcases ho k e with h1 | h1
    · exact (h.own k h1).1
    · omega
  · obtain ⟨pt, ct, K, hB, -⟩ := hb
    exact (hB.turn k e).2

section
variable (b bb : Nat) (T : List Tok) (D n : Nat)
variable (hT : T.length ≤ 40000) (hS : Short T) (hE : EndT T)
include hT hS hE

/-- What take does: at the end too. -/
def TPost (b bb : Nat) (T : List Tok) (D n : Nat) (s : St) (N : List Nd) (vn : Value) (A : Nat → Prop) (w : World) (e : Ending) (w' : World) : Prop :=
  ∃ vn' : Value, e = .returned (.int .i64 (N.length : Int)) ∧ XAt w' b bb T D n (leafT T s).2 (s.i + 1) (N ++ [⟨19, (s.i : Int), []⟩]) vn' A ∧ Step b bb vn w vn' w'

set_option maxRecDepth 100000 in
set_option maxHeartbeats 4000000 in
theorem take_c (s : St) (N : List Nd) (vn : Value) (A : Nat → Prop) (w : World) (h : XAt w b bb T D n s s.i N vn A) :
    Calls Tryz.prog 97 #[.pointer (some ⟨b, 0, none⟩)] w (TPost b bb T D n s N vn A w) := by
  obtain ⟨d0, d1, d2, d3, d4, d5, d6, d7, d8, d9, d10⟩ := cells10 h.box
  have hfew := h.few
  have hok := h.ok
  have HL := Lib.hid (Leaf_far A bb T s.i N vn w (by omega) hok (by omega) h.bld)
  have htok : T[s.i]? = some (tokQ T s) := by unfold tokQ; rw [List.getElem?_eq_getElem hok]; rfl
  have hend := hE _ _ htok
  have hi : (leafT T s).2.i = min (s.i + 1) (T.length - 1) ∧ (leafT T s).2.inn = s.inn ∧ (leafT T s).2.e = s.e ∧ (leafT T s).2.pos = s.pos := by
    show (leafQ T s).2.i = _ ∧ (leafQ T s).2.inn = _ ∧ (leafQ T s).2.e = _ ∧ (leafQ T s).2.pos = _
    unfold leafQ
    by_cases h5 : (tokQ T s).kind = 5
    · rw [if_pos h5]
      have := hend.1 h5
      exact ⟨by show s.i = _; omega, rfl, rfl, rfl⟩
    · rw [if_neg h5]
      have : s.i + 1 ≠ T.length := fun e => h5 (hend.2 e)
      exact ⟨by show s.i + 1 = _; omega, rfl, rfl, rfl⟩
  obtain ⟨s', hs'⟩ : ∃ s', (leafT T s).2 = s' := ⟨_, rfl⟩
  rw [hs'] at hi
  have ht' : T[min (s.i + 1) (T.length - 1)]? = some (tokQ T s') := by
    rw [← hi.1]; unfold tokQ; rw [List.getElem?_eq_getElem (by rw [hi.1]; omega)]; rfl
  have HPK := Lib.hid (fun (N' : List Nd) (vn' : Value) (w1 : World) (hb : BldV w1 bb T (s.i + 1) N' vn') => Peek_c bb T (s.i + 1) N' vn' (tokQ T s') w1 (by omega) (by omega) hS ht' hb)
  have HX := Lib.hid h
  have hle : N.length + 1 ≤ 2 * (s.i + 1) := by omega
  have HLE := Lib.hid hle
  have HI := Lib.hid hi
  have HSI : Hid (s'.i < T.length) := Lib.hid (by rw [hi.1]; omega)
  have HTP : Hid (TPost b bb T D n s N vn A w = fun e w' => ∃ vn' : Value, e = .returned (.int .i64 (N.length : Int)) ∧ XAt w' b bb T D n s' (s.i + 1) (N ++ [⟨19, (s.i : Int), []⟩]) vn' A ∧ Step b bb vn w vn' w') := Lib.hid (by unfold TPost; rw [hs'])
  rw [HTP.out]
  clear h hfew hok htok hend hs' hi ht' hle hT hS hE HTP
  go_enter Tryz.func97, Tryz.ntmps97
  go_wp2_with fail
  refine HL.out.mono ?_
  rintro e w1 ⟨rfl, vn1, hb1, hf1, ho1⟩
  obtain ⟨hx1, hst1⟩ := HX.out.bump hb1 hf1 ho1 (by rw [List.length_append]; exact HLE.out)
  have HX1 := Lib.hid hx1; have HST1 := Lib.hid hst1
  obtain ⟨d0, d1, d2, d3, d4, d5, d6, d7, d8, d9, d10⟩ := cells10 hx1.box
  clear hb1 hf1 ho1 hx1 hst1 HL
  go_wp2_with fail
  refine (HPK.out _ _ _ HX1.out.bld.bld).mono ?_
  rintro e w2 ⟨rfl, hg2⟩
  have HX2 := Lib.hid (HX1.out.kept hg2); have HST2 := Lib.hid (HST1.out.trans (Step.of (b := b) (bb := bb) (vn := vn1) hg2))
  obtain ⟨d0, d1, d2, d3, d4, d5, d6, d7, d8, d9, d10⟩ := cells10 HX2.out.box
  clear hg2 HPK
  have HB2 := Lib.hid (fun (v1 v2 v3 v4 : Value) => set_cells (i := 4) (u := v4) (set_cells (i := 3) (u := v3) (set_cells (i := 2) (u := v2) (set_cells (i := 1) (u := v1) HX2.out.box))))
  obtain ⟨t, ht⟩ : ∃ t, tokQ T s' = t := ⟨_, rfl⟩
  have HTK := Lib.hid ht
  rw [ht]
  unfold tokA strV
  obtain ⟨xl, hxl⟩ : ∃ xl : ByteArray, (⟨t.lead.toArray⟩ : ByteArray) = xl := ⟨_, rfl⟩
  obtain ⟨xt, hxt⟩ : ∃ xt : ByteArray, (⟨t.text.toArray⟩ : ByteArray) = xt := ⟨_, rfl⟩
  have HXL := Lib.hid hxl; have HXT := Lib.hid hxt
  rw [hxl, hxt]
  obtain ⟨tk, htk⟩ : ∃ tk, t.kind = tk := ⟨_, rfl⟩
  obtain ⟨tp, htp⟩ : ∃ tp, t.pos = tp := ⟨_, rfl⟩
  have HKI := Lib.hid htk; have HPO := Lib.hid htp
  rw [htk, htp]
  clear ht hxl hxt htk htp
  go_wp2_with fail
  go_ret
  have hf : Fr2 (Self b) w2 ((((w2.setCell ⟨b, 1, none⟩ (.int .i64 (tk : Int))).setCell ⟨b, 2, none⟩ (.string xl)).setCell ⟨b, 3, none⟩ (.string xt)).setCell ⟨b, 4, none⟩ (.int .i64 (tp : Int))) := ((((Fr2.refl _ _).setCell (mine b) _).setCell (mine b) _).setCell (mine b) _).setCell (mine b) _
  refine ⟨vn1, rfl, HX2.out.turn hf ((HB2.out _ _ _ _).trans ?_) HSI.out, HST2.out.trans (Step.self hf)⟩
  rw [HTK.out, HI.out.2.1, HI.out.2.2.1, HI.out.2.2.2]
  unfold strV
  rw [HXL.out, HXT.out, HKI.out, HPO.out]
  rfl

/-- What take does ahead of the end. -/
theorem take_i (s : St) (N : List Nd) (vn : Value) (A : Nat → Prop) (w : World) (hk : (tokQ T s).kind ≠ 5) (he : s.e = 0) (h : XAt w b bb T D n s s.i N vn A) :
    Calls Tryz.prog 97 #[.pointer (some ⟨b, 0, none⟩)] w (IPost b bb T D n 1 s (leafT T s) N vn A w) := by
  refine (take_c b bb T D n hT hS hE s N vn A w h).mono ?_
  rintro e w' ⟨vn', rfl, h1, h2⟩
  exact ⟨_, _, vn', rfl, by rw [leaf_i hk]; exact h1, h2, OutD.leaf hk he, fun h => absurd he h⟩

/-- One of some texts must come. -/
def musT (T : List Tok) (ws : List (List UInt8)) (s : St) : RT := if atQ T ws s = true then leafT T s else ([], failQ T 22 s)
/-- No token that reads as a key or sign stands at the end. -/
def KeysT (T : List Tok) (ws : List (List UInt8)) : Prop := ∀ s, atQ T ws s = true → (tokQ T s).kind ≠ 5 ∧ s.e = 0

set_option maxRecDepth 100000 in
set_option maxHeartbeats 4000000 in
theorem one_c (ws : List (List UInt8)) (hn : ws.length ≤ 100) (hk : KeysT T ws) (s : St) (N : List Nd) (vn v : Value) (A : Nat → Prop) (w : World) (h : XAt w b bb T D n s s.i N vn A) (hv : StrsAt w v ws) :
    Calls Tryz.prog 96 #[.pointer (some ⟨b, 0, none⟩), v] w (IPost b bb T D n 1 s (musT T ws s) N vn A w) := by
  have HA := Lib.hid (at_c b bb T D n s s.i N vn v A ws w hn h hv)
  have HF := Lib.hid (fun w h => pfail_c b bb T D n 22 s s.i N vn A w h)
  have HX := Lib.hid h
  obtain ⟨a, ha⟩ : ∃ a, atQ T ws s = a := ⟨_, rfl⟩
  have HV := Lib.hid ha
  have HTK := Lib.hid (fun w (hh : atQ T ws s = true) h => take_i b bb T D n hT hS hE s N vn A w (hk s hh).1 (hk s hh).2 h)
  rw [ha] at HA
  clear h hv hn hk ha hT hS hE
  go_enter Tryz.func96, Tryz.ntmps96
  go_wp2_with fail
  refine HA.out.mono ?_
  rintro e w1 ⟨rfl, hg⟩
  have HX1 := Lib.hid (HX.out.kept hg); have HG := Lib.hid hg
  clear hg HA
  cases a
  · go_wp2_with fail
    refine (HF.out _ HX1.out).mono ?_
    rintro e w2 ⟨rfl, h2, st2⟩
    have HZ : Hid (IPost b bb T D n 1 s (musT T ws s) N vn A w (.returned (.int .i64 (-1))) w2) := Lib.hid (by
      have e : musT T ws s = ([], failQ T 22 s) := by unfold musT; rw [if_neg (by rw [HV.out]; decide)]
      rw [e]
      refine ⟨-1, N, vn, rfl, ?_, (Step.of HG.out).trans st2, OutD.fail (by decide) [], fun h => by show (failQ T 22 s).e ≠ 0; rw [fail_same T h]; exact h⟩
      show XAt w2 b bb T D n (failQ T 22 s) (failQ T 22 s).i N vn A
      rw [fail_i]; exact h2)
    clear h2 st2
    go_wp2_with fail
    go_ret
    exact HZ.out
  · go_wp2_with fail
    refine (HTK.out _ HV.out HX1.out).mono ?_
    rintro e w2 hp
    have HZ : Hid (IPost b bb T D n 1 s (musT T ws s) N vn A w e w2) := Lib.hid (by
      have e : musT T ws s = leafT T s := by unfold musT; rw [if_pos HV.out]
      rw [e]
      exact hp.after (Step.of HG.out))
    obtain ⟨v, N', vn', rfl, -⟩ := hp
    go_wp2_with fail
    go_ret
    exact HZ.out

set_option maxRecDepth 100000 in
set_option maxHeartbeats 4000000 in
theorem oneOf_c (k : Nat) (hk : k ≠ 5) (s : St) (N : List Nd) (vn : Value) (A : Nat → Prop) (w : World) (h : XAt w b bb T D n s s.i N vn A) :
    Calls Tryz.prog 65 #[.pointer (some ⟨b, 0, none⟩), .int .i64 (k : Int)] w (IPost b bb T D n 1 s (kindT T k s) N vn A w) := by
  have HA := Lib.hid (atKind_c b bb T D n s s.i N vn A k w h)
  have HF := Lib.hid (fun w h => pfail_c b bb T D n 22 s s.i N vn A w h)
  have HX := Lib.hid h
  have HKT : Hid (kindT T k s = if s.e = 0 ∧ (tokQ T s).kind = k then leafT T s else ([], failQ T 22 s)) := Lib.hid rfl
  have HTK := Lib.hid (fun w (hh : s.e = 0 ∧ (tokQ T s).kind = k) h => take_i b bb T D n hT hS hE s N vn A w (by rw [hh.2]; exact hk) hh.1 h)
  clear h hk hT hS hE
  by_cases hc : s.e = 0 ∧ (tokQ T s).kind = k
  · rw [decide_eq_true hc] at HA
    rw [if_pos hc] at HKT
    have HC := Lib.hid hc
    rw [HKT.out]
    clear hc
    go_enter Tryz.func65, Tryz.ntmps65
    go_wp2_with fail
    refine HA.out.mono ?_
    rintro e w1 ⟨rfl, hg⟩
    have HX1 := Lib.hid (HX.out.kept hg); have HG := Lib.hid hg
    clear hg HA
    go_wp2_with fail
    refine (HTK.out _ HC.out HX1.out).mono ?_
    rintro e w2 hp
    have HZ := Lib.hid (hp.after (Step.of HG.out))
    obtain ⟨v, N', vn', rfl, -⟩ := hp
    go_wp2_with fail
    go_ret
    exact HZ.out
  · rw [decide_eq_false hc] at HA
    rw [if_neg hc] at HKT
    rw [HKT.out]
    clear hc
    go_enter Tryz.func65, Tryz.ntmps65
    go_wp2_with fail
    refine HA.out.mono ?_
    rintro e w1 ⟨rfl, hg⟩
    have HX1 := Lib.hid (HX.out.kept hg); have HG := Lib.hid hg
    clear hg HA
    go_wp2_with fail
    refine (HF.out _ HX1.out).mono ?_
    rintro e w2 ⟨rfl, h2, st2⟩
    have HZ : Hid (IPost b bb T D n 1 s ([], failQ T 22 s) N vn A w (.returned (.int .i64 (-1))) w2) := Lib.hid (by
      refine ⟨-1, N, vn, rfl, ?_, (Step.of HG.out).trans st2, OutD.fail (by decide) [], fun h => by show (failQ T 22 s).e ≠ 0; rw [fail_same T h]; exact h⟩
      show XAt w2 b bb T D n (failQ T 22 s) (failQ T 22 s).i N vn A
      rw [fail_i]; exact h2)
    clear h2 st2
    go_wp2_with fail
    go_ret
    exact HZ.out
end
end Go.Proofs.YtmlcpihedmmlfaaGreatDoor
namespace Go.Proofs.YtmlcpihedmmlfaaGreatDoor
open Go.RowKit

inductive Th where
  | strs (ws : List (List UInt8))
  | ints (l : List Int)
  | box (x : Value)
def ThAt (w : World) (b : Nat) (v : Value) : Th → Prop
  | .strs ws => StrsAt w v ws
  | .ints l => OwnL w (b + 1) v l
  | .box x => ∃ g, v = .slice (some ⟨g, 0, none⟩) 1 1 ∧ w.cell? ⟨g, 0, none⟩ = some x

def Apart (w0 w : World) (b : Nat) (vn : Value) (A : Nat → Prop) (p : Value × Th) : Prop :=
  ThAt w b p.1 p.2 ∧ ∀ k, p.1.ownBlock = some k → w0.heap.size ≤ k ∧ b < k ∧ k < w.heap.size ∧ vn.ownBlock ≠ some k ∧ ¬ A k
def Sepp (p q : Value × Th) : Prop := ∀ k, p.1.ownBlock = some k → q.1.ownBlock ≠ some k
/-- From w0 to w, where vn0 and A0 were at first. -/
def KX (b bb : Nat) (T : List Tok) (D n : Nat) (A0 : Nat → Prop) (vn0 : Value) (w0 w : World) (s : St) (u : Nat) (N : List Nd) (vn : Value) (L : List (Value × Th)) : Prop :=
  ∃ A : Nat → Prop, XAt w b bb T D n s u N vn A ∧ (∀ j, A j → A0 j) ∧ (∀ p ∈ L, Apart w0 w b vn A p) ∧ Step b bb vn0 w0 vn w ∧ (∀ k, A0 k → b < k) ∧ (∀ k, w0.heap.size ≤ k → A0 k) ∧ b < w0.heap.size ∧ L.Pairwise Sepp

theorem ThAt.keptF {S : Nat → Prop} {w w' : World} {b : Nat} {v : Value} {t : Th} (h : ThAt w b v t) (hf : Fr2 S w w') (hk : ∀ k, v.ownBlock = some k → k < w.heap.size ∧ ¬ S k) : ThAt w' b v t := by
  cases t with
  | strs ws =>
    obtain ⟨g, e, hc⟩ := h
    have h1 := hk g (by rw [e]; rfl)
    exact ⟨g, e, fun j x hx => (World.cell?_of_block (a := ⟨g, j, none⟩) (hf.block g h1.1 h1.2)).trans (hc j x hx)⟩
  | ints l => exact OwnG.keptF h hf fun k e => (hk k e).2
  | box x =>
    obtain ⟨g, e, hc⟩ := h
    have h1 := hk g (by rw [e]; rfl)
    exact ⟨g, e, (World.cell?_of_block (a := ⟨g, 0, none⟩) (hf.block g h1.1 h1.2)).trans hc⟩

section
variable {b bb : Nat} {T : List Tok} {D n : Nat} {A0 : Nat → Prop} {vn0 : Value} {w0 w w' : World} {s : St} {u : Nat} {N : List Nd} {vn : Value} {L : List (Value × Th)}
theorem XAt.wide {A A' : Nat → Prop} (h : XAt w b bb T D n s u N vn A) (ha : ∀ j, A j → A' j) (hf : ∀ k, A' k → b < k) (hn : ∀ k, w.heap.size ≤ k → A' k) : XAt w b bb T D n s u N vn A' := by
  obtain ⟨pt, ct, K, hB, hK⟩ := h.bld
  exact ⟨h.box, ⟨pt, ct, K, hB, fun i x hx hn a ha' => ha _ (hK i x hx hn a ha')⟩, hf, hn, h.lt, h.own, h.ok, h.few⟩
theorem KX.start {A : Nat → Prop} (h : XAt w b bb T D n s u N vn A) : KX b bb T D n A vn w w s u N vn [] :=
  ⟨A, h, fun _ h => h, fun p hp => by simp at hp, Step.refl _ _ _ _, h.far, h.new, h.lt', List.Pairwise.nil⟩
theorem KX.done (h : KX b bb T D n A0 vn0 w0 w s u N vn L) : XAt w b bb T D n s u N vn A0 ∧ Step b bb vn0 w0 vn w := by
  obtain ⟨A, h1, h2, -, h4, h5, h6, -⟩ := h
  exact ⟨h1.wide h2 h5 fun k hk => h6 k (Nat.le_trans h4.fr.size hk), h4⟩
theorem KX.kept (h : KX b bb T D n A0 vn0 w0 w s u N vn L) (hg : w.grownBy w' none) : KX b bb T D n A0 vn0 w0 w' s u N vn L := by
  obtain ⟨A, h1, h2, h3, h4, h5, h6, h7⟩ := h
  refine ⟨A, h1.kept hg, h2, fun p hp => ?_, h4.trans (Step.of hg), h5, h6, h7⟩
  obtain ⟨t, k⟩ := h3 p hp
  exact ⟨t.keptF (S := fun _ => False) (Fr2.none hg) fun j e => ⟨(k j e).2.2.1, fun h => h⟩, fun j e => ⟨(k j e).1, (k j e).2.1, Nat.lt_of_lt_of_le (k j e).2.2.1 hg.size, (k j e).2.2.2⟩⟩
theorem KX.drew (h : KX b bb T D n A0 vn0 w0 w s u N vn L) : KX b bb T D n A0 vn0 w0 w.drew s u N vn L := h.kept (gb_drew (gb_refl _ _))
theorem KX.alloc (h : KX b bb T D n A0 vn0 w0 w s u N vn L) (o : Obj) : KX b bb T D n A0 vn0 w0 (w.alloc o) s u N vn L := h.kept (gb_alloc (gb_refl _ _) _)
theorem KX.few (h : KX b bb T D n A0 vn0 w0 w s u N vn L) {L' : List (Value × Th)} (hl : L'.Sublist L) : KX b bb T D n A0 vn0 w0 w s u N vn L' := by
  obtain ⟨A, h1, h2, h3, h4, h5, h6, h7, h8⟩ := h
  exact ⟨A, h1, h2, fun p hp => h3 p (hl.subset hp), h4, h5, h6, h7, h8.sublist hl⟩
theorem KX.nils (h : KX b bb T D n A0 vn0 w0 w s u N vn L) : KX b bb T D n A0 vn0 w0 w s u N vn [] := h.few (List.nil_sublist _)
theorem KX.innc (h : KX b bb T D n A0 vn0 w0 w s u N vn L) : w.cell? ⟨b, 7, none⟩ = some (.bool s.inn) := by
  obtain ⟨A, h1, -⟩ := h
  exact (cells10 h1.box).2.2.2.2.2.2.2.1
theorem KX.cell (h : KX b bb T D n A0 vn0 w0 w s u N vn L) : w.cell? ⟨b, 0, none⟩ = some (.pointer (some ⟨bb, 0, none⟩)) := by
  obtain ⟨A, h1, -⟩ := h
  exact (cells10 h1.box).1
theorem KX.ok (h : KX b bb T D n A0 vn0 w0 w s u N vn L) : s.i < T.length := by
  obtain ⟨A, h1, -⟩ := h
  exact h1.ok

/-- A block of one's own is new. -/
theorem KX.fresh (h : KX b bb T D n A0 vn0 w0 w s u N vn L) {o : Obj} {v : Value} {t : Th} (ht : ThAt (w.alloc o) b v t) (hv : v.ownBlock = some w.heap.size) : KX b bb T D n A0 vn0 w0 (w.alloc o) s u N vn ((v, t) :: L) := by
  obtain ⟨A, h1, h2, h3, h4, h5, h6, h7, h8⟩ := h
  have hb := h1.lt'
  have hs : (w.alloc o).heap.size = w.heap.size + 1 := by simp
  have hg := World.grownBy_alloc w o none
  have h0 := h4.fr.size
  have hx := h1.kept hg
  refine ⟨fun j => A j ∧ j ≠ w.heap.size, ⟨hx.box, h1.bld.keptF (S := fun _ => False) (Fr2.none hg) (fun _ _ h => h) (fun _ _ h => h) (fun _ _ h => h) (fun k hk ha => ⟨ha, by omega⟩), fun k hk => h1.far k hk.1, fun k hk => ⟨h1.new k (by omega), by omega⟩, hx.lt, hx.own, hx.ok, hx.few⟩, fun j hj => h2 j hj.1, fun p hp => ?_, h4.trans (Step.of hg), h5, h6, h7, List.pairwise_cons.2 ⟨fun p hp k e e2 => ?_, h8⟩⟩
  · rcases List.mem_cons.1 hp with rfl | hp
    · refine ⟨ht, fun k e => ?_⟩
      have hk : w.heap.size = k := by rw [hv] at e; exact Option.some.inj e
      subst hk
      exact ⟨h0, hb, by omega, fun e2 => by have := (h1.own _ e2).2; omega, fun hA => hA.2 rfl⟩
    · obtain ⟨t, k⟩ := h3 p hp
      exact ⟨t.keptF (S := fun _ => False) (Fr2.none hg) fun j e => ⟨(k j e).2.2.1, fun h => h⟩, fun j e => ⟨(k j e).1, (k j e).2.1, by have := (k j e).2.2.1; omega, (k j e).2.2.2.1, fun hA => (k j e).2.2.2.2 hA.1⟩⟩
  · have hk : w.heap.size = k := by rw [hv] at e; exact Option.some.inj e
    have := ((h3 p hp).2 k e2).2.2.1
    omega

theorem KX.strs (h : KX b bb T D n A0 vn0 w0 w s u N vn L) (xs : List ByteArray) (ty : TypeId) : KX b bb T D n A0 vn0 w0 (w.alloc (.cells (xs.map Value.string).toArray ty)) s u N vn ((.slice (some ⟨w.heap.size, 0, none⟩) xs.length xs.length, .strs (xs.map fun x => x.data.toList)) :: L) := by
  refine h.fresh ⟨w.heap.size, by simp, fun j x hx => ?_⟩ rfl
  rw [cell_of_row _ _ j _ _ (0, 0) (heap_alloc_new w _)]
  rw [List.getElem?_map] at hx
  rw [List.getElem?_toArray, List.getElem?_map]
  cases hq : xs[j]? with
  | none => rw [hq] at hx; cases hx
  | some y =>
    rw [hq] at hx
    obtain rfl : y.data.toList = x := Option.some.inj hx
    rfl
theorem KX.strs1 (h : KX b bb T D n A0 vn0 w0 w s u N vn L) (x : ByteArray) (ty : TypeId) : KX b bb T D n A0 vn0 w0 (w.alloc (.cells #[.string x] ty)) s u N vn ((.slice (some ⟨w.heap.size, 0, none⟩) 1 1, .strs [x.data.toList]) :: L) := h.strs [x] ty
theorem KX.strs2 (h : KX b bb T D n A0 vn0 w0 w s u N vn L) (x y : ByteArray) (ty : TypeId) : KX b bb T D n A0 vn0 w0 (w.alloc (.cells #[.string x, .string y] ty)) s u N vn ((.slice (some ⟨w.heap.size, 0, none⟩) 2 2, .strs [x.data.toList, y.data.toList]) :: L) := h.strs [x, y] ty
theorem KX.boxed (h : KX b bb T D n A0 vn0 w0 w s u N vn L) (x : Value) (ty : TypeId) : KX b bb T D n A0 vn0 w0 (w.alloc (.cells #[x] ty)) s u N vn ((.slice (some ⟨w.heap.size, 0, none⟩) 1 1, .box x) :: L) :=
  h.fresh ⟨w.heap.size, rfl, by rw [cell_of_row _ _ 0 _ _ (0, 0) (heap_alloc_new w _)]; rfl⟩ rfl
theorem KX.nilS (h : KX b bb T D n A0 vn0 w0 w s u N vn L) : KX b bb T D n A0 vn0 w0 w s u N vn ((.slice none 0 0, .ints []) :: L) := by
  obtain ⟨A, h1, h2, h3, h4, h5, h6, h7, h8⟩ := h
  refine ⟨A, h1, h2, fun p hp => ?_, h4, h5, h6, h7, List.pairwise_cons.2 ⟨fun p hp k e => (by cases e), h8⟩⟩
  rcases List.mem_cons.1 hp with rfl | hp
  · exact ⟨OwnL.nil _ _, fun k e => by cases e⟩
  · exact h3 p hp

theorem OwnL.newL (w : World) (base : Nat) (vs : List Int) (h0 : vs ≠ []) (hl : vs.length ≤ 1000000) (hb : base ≤ w.heap.size) : OwnL (w.alloc (.cells (intsV vs).toArray 3)) base (.slice (some ⟨w.heap.size, 0, none⟩) vs.length vs.length) vs := by
  refine ⟨?_, one_wid (intsV_one _)⟩
  rw [one_len, one_flat, intsV_len]
  exact ⟨by simp [intsV], .inr ⟨_, vs.length, _, rfl, hb, heap_alloc_new w _, by simp, by unfold maxLen; omega, by simp [intsV], by rw [List.take_of_length_le (by simp [intsV])]⟩⟩
theorem KX.ints (h : KX b bb T D n A0 vn0 w0 w s u N vn L) (vs : List Int) (h0 : vs ≠ []) (hl : vs.length ≤ 1000000) : KX b bb T D n A0 vn0 w0 (w.alloc (.cells (intsV vs).toArray 3)) s u N vn ((.slice (some ⟨w.heap.size, 0, none⟩) vs.length vs.length, .ints vs) :: L) := by
  refine h.fresh (OwnL.newL w (b + 1) vs h0 hl ?_) rfl
  obtain ⟨A, h1, -⟩ := h
  exact h1.lt'

/-- A call of the parser's own. -/
theorem KX.go {A : Nat → Prop} {s' : St} {u' : Nat} {N' : List Nd} {vn' : Value} (h2 : ∀ j, A j → A0 j) (h3 : ∀ p ∈ L, Apart w0 w b vn A p) (h4 : Step b bb vn0 w0 vn w) (h5 : (∀ k, A0 k → b < k) ∧ (∀ k, w0.heap.size ≤ k → A0 k) ∧ b < w0.heap.size ∧ L.Pairwise Sepp) (hbb : bb < b) (hx : XAt w' b bb T D n s' u' N' vn' A) (hs : Step b bb vn w vn' w') : KX b bb T D n A0 vn0 w0 w' s' u' N' vn' L := by
  refine ⟨A, hx, h2, fun p hp => ?_, h4.trans hs, h5⟩
  obtain ⟨t, k⟩ := h3 p hp
  refine ⟨t.keptF hs.fr fun j e => ?_, fun j e => ?_⟩
  · obtain ⟨k1, k2, k3, k4, -⟩ := k j e
    exact ⟨k3, fun h => by rcases h with h | h | h; omega; omega; exact k4 h⟩
  · obtain ⟨k1, k2, k3, k4, k5⟩ := k j e
    refine ⟨k1, k2, Nat.lt_of_lt_of_le k3 hs.fr.size, fun h => ?_, k5⟩
    rcases hs.own j h with h | h
    · exact k4 h
    · omega
theorem KX.call {P : Program} {f k : Nat} {args : Array Value} {r : RT} (hk : KX b bb T D n A0 vn0 w0 w s s.i N vn L) (C : ∀ A, XAt w b bb T D n s s.i N vn A → Calls P f args w (IPost b bb T D n k s r N vn A w)) :
    Calls P f args w fun e w' => ∃ (v : Int) (N' : List Nd) (vn' : Value), e = .returned (.int .i64 v) ∧ KX b bb T D n A0 vn0 w0 w' r.2 r.2.i N' vn' L ∧ OutD k N s r N' [v] ∧ (s.e ≠ 0 → r.2.e ≠ 0) := by
  obtain ⟨A, h1, h2, h3, h4, h5⟩ := hk
  refine (C A h1).mono ?_
  rintro e w' ⟨v, N', vn', rfl, g1, g2, g3, g4⟩
  exact ⟨v, N', vn', rfl, KX.go h2 h3 h4 h5 h1.lt g1 g2, g3, g4⟩
/-- A call that changes nothing. -/
theorem KX.val {P : Program} {f : Nat} {args : Array Value} {v : Value} (hk : KX b bb T D n A0 vn0 w0 w s u N vn L) (C : ∀ A, XAt w b bb T D n s u N vn A → Calls P f args w (ValPost v w)) :
    Calls P f args w fun e w' => e = .returned v ∧ KX b bb T D n A0 vn0 w0 w' s u N vn L := by
  obtain ⟨A, h1, -⟩ := id hk
  refine (C A h1).mono ?_
  rintro e w' ⟨rfl, hg⟩
  exact ⟨rfl, hk.kept hg⟩
/-- A list of one's own was appended to. -/
theorem KX.appended {v1 v' : Value} {l1 l : List Int} (hk : KX b bb T D n A0 vn0 w0 w s u N vn L) {L2 : List (Value × Th)} (hm : ((v1, Th.ints l1) :: L2).Sublist L) (ho : OwnL w' (b + 1) v' l) (hg : w.grownBy w' v1.ownBlock) (hb : ∀ k, v'.ownBlock = some k → v1.ownBlock = some k ∨ w.heap.size ≤ k) : KX b bb T D n A0 vn0 w0 w' s u N vn ((v', .ints l) :: L2) := by
  obtain ⟨A, h1, h2, h3, h4, h5, h6, h7, h8⟩ := hk
  obtain ⟨-, hk1⟩ := h3 _ (hm.subset (List.mem_cons_self ..))
  obtain ⟨hp1, hp2⟩ := List.pairwise_cons.1 (h8.sublist hm)
  have hf : Fr2 (fun k => v1.ownBlock = some k) w w' := Fr2.of hg (fun k e => e)
  have hat := fun k e => OwnG.at ho k e
  have hlt := h1.lt
  have hbw := h1.lt'
  refine ⟨fun j => A j ∧ v'.ownBlock ≠ some j, ⟨hf.keep h1.box (fun e => by have := (hk1 _ e).2.1; omega), h1.bld.keptF hf (fun k hk e => by have := (hk1 _ e).2.1; omega) (fun k e e2 => (hk1 _ e2).2.2.2.1 e) (fun k ha e => (hk1 _ e).2.2.2.2 ha) (fun k hk ha => ⟨ha, fun e => ?_⟩), fun k hk => h1.far k hk.1, fun k hk => ⟨h1.new k (Nat.le_trans hf.size hk), fun e => by have := (hat k e).2; omega⟩, h1.lt, fun k e => ⟨(h1.own k e).1, Nat.lt_of_lt_of_le (h1.own k e).2 hf.size⟩, h1.ok, h1.few⟩, fun j hj => h2 j hj.1, fun p hp => ?_, ⟨⟨hf.os.trans h4.fr.os, hf.tape.trans h4.fr.tape, hf.output.trans h4.fr.output, Nat.le_trans h4.fr.size hf.size, fun k hk hn => ?_⟩, h4.own⟩, h5, h6, h7, List.pairwise_cons.2 ⟨fun p hp k e e2 => ?_, hp2⟩⟩
  · rcases hb k e with h | h
    · exact (hk1 _ h).2.2.2.2 ha
    · omega
  · rcases List.mem_cons.1 hp with rfl | hp
    rotate_left
    · obtain ⟨t, k⟩ := h3 p (hm.subset (List.mem_cons_of_mem _ hp))
      refine ⟨t.keptF hf fun j e => ⟨(k j e).2.2.1, fun e2 => hp1 p hp j e2 e⟩, fun j e => ⟨(k j e).1, (k j e).2.1, Nat.lt_of_lt_of_le (k j e).2.2.1 hf.size, (k j e).2.2.2.1, fun hA => (k j e).2.2.2.2 hA.1⟩⟩
    refine ⟨ho, fun k e => ⟨?_, ?_, (hat k e).2, fun e2 => ?_, fun hA => hA.2 e⟩⟩
    · rcases hb k e with h | h
      · exact (hk1 _ h).1
      · exact Nat.le_trans h4.fr.size h
    · have := (hat k e).1; omega
    · rcases hb k e with h | h
      · exact (hk1 _ h).2.2.2.1 e2
      · have := (h1.own _ e2).2; omega
  · rw [hf.block k (Nat.lt_of_lt_of_le hk h4.fr.size) (fun e => by have := (hk1 _ e).1; omega), h4.fr.block k hk hn]
  · rcases hb k e with h | h
    · exact hp1 p hp k h e2
    · have := ((h3 p (hm.subset (List.mem_cons_of_mem _ hp))).2 k e2).2.2.1
      omega

theorem KX.list {v : Value} {l : List Int} (hk : KX b bb T D n A0 vn0 w0 w s u N vn L) (hm : (v, Th.ints l) ∈ L) : ∃ p c, v = .slice p l.length c ∧ VAt w p (intsV l) ∧ l.length ≤ c ∧ OwnL w (b + 1) v l := by
  obtain ⟨A, h1, h2, h3, -⟩ := hk
  obtain ⟨ho, -⟩ := h3 _ hm
  obtain ⟨p, c, e1, e2, e3, -⟩ := OwnL.parts ho
  exact ⟨p, c, e1, e2, e3, ho⟩
theorem KX.str {v : Value} {ws : List (List UInt8)} (hk : KX b bb T D n A0 vn0 w0 w s u N vn L) (hm : (v, Th.strs ws) ∈ L) : StrsAt w v ws := by
  obtain ⟨A, h1, h2, h3, -⟩ := hk
  exact (h3 _ hm).1

/-- append of a list of places to one's own. -/
theorem wp_kx {o : Oper} {a : Act} {K : Act → World → Prop} {Q : Exit → Act → World → Prop} (os ox : Operand) (ho : o.op = .call { callee := .builtin .append, args := #[os, ox], argTypes := #[52, 52] })
    {l1 l2 : List Int} {v1 : Value} {q : Option Addr} {m c : Nat} {L2 : List (Value × Th)} (hk : KX b bb T D n A0 vn0 w0 w s u N vn L) (hm : ((v1, Th.ints l1) :: L2).Sublist L) (hs : a.eval os = v1) (hx : a.eval ox = .slice q m c) (hl : l2.length = m) (hy : VAt w q (intsV l2)) (h1 : l1.length ≤ 1000000) (h2 : l2.length ≤ 1000000)
    (h : ∀ v' w', KX b bb T D n A0 vn0 w0 w' s u N vn ((v', .ints (l1 ++ l2)) :: L2) → K (a.put o.dst v') w') : o.wp Tryz.prog a w K Q := by
  obtain ⟨p1, c1, -, -, -, hown⟩ := hk.list (hm.subset (List.mem_cons_self ..))
  have hown2 := hown.1
  rw [one_len, one_flat, intsV_len] at hown2
  obtain ⟨i0, hi, hi0, hi1, hi2⟩ := info_parts info_int
  have hbw : b + 1 ≤ w.heap.size := by
    obtain ⟨A, g1, -⟩ := id hk
    exact g1.lt'
  by_cases h0 : l2 = []
  · subst h0
    obtain rfl : m = 0 := hl.symm
    have hrun := run_append_zero (P := Tryz.prog) (w := w) (b + 1) 52 o.type 3 i0 1 Tryz.underlying52 hi v1 l1.length (intsV l1) hown2 q c
    have h3 := h v1 w (by rw [List.append_nil]; exact hk.few hm)
    unfold Oper.wp
    simp [execOp, ho, resolve, invoke, builtin, hs, hx, hrun, Result.andThen]
    exact h3
  · obtain ⟨g, off, rfl, hg, hc⟩ := hy.resolve_left (fun e => h0 (List.length_eq_zero_iff.1 (by have := congrArg List.length e; rwa [intsV_len] at this)))
    refine wp_append_lies w os ox 52 ho (b + 1) 3 i0 (.int .i64 0) 1 8 Tryz.underlying52 hi hi0 hi1 hi2 rfl (by decide) v1 l1.length (intsV l1) hs hown2 ⟨g, off, none⟩ m c (intsV l2) hx (by rw [intsV_len, hl, Nat.mul_one]) (fun j x hj => by rw [Addr.add_lit]; exact hc j x hj) (intsV_one _) (by rw [← hl]; exact List.length_pos_iff.2 h0) (by unfold maxLen; omega) (by omega) hbw w.heap.size rfl ?_
    intro g' cap' w' k1 k2 k3 k4
    refine h _ _ (hk.appended hm ⟨?_, one_wid (intsV_one _)⟩ k2 (fun k e => ?_))
    · rw [one_len, one_flat, intsV_append, List.length_append, intsV_len, intsV_len, hl]; exact k1
    · have hk' : g' = k := by simpa [Value.ownBlock] using e
      subst hk'
      exact k3.imp id fun h => by omega
theorem wpList_kx {ops : Array Oper} {rest : List Oper} {o : Oper} {a : Act} {Q : Exit → Act → World → Prop} (hgd : o.guard = none) (os ox : Operand) (ho : o.op = .call { callee := .builtin .append, args := #[os, ox], argTypes := #[52, 52] })
    {l1 l2 : List Int} {v1 : Value} {q : Option Addr} {m c : Nat} {L2 : List (Value × Th)} (hk : KX b bb T D n A0 vn0 w0 w s u N vn L) (hm : ((v1, Th.ints l1) :: L2).Sublist L) (hs : a.eval os = v1) (hx : a.eval ox = .slice q m c) (hl : l2.length = m) (hy : VAt w q (intsV l2)) (h1 : l1.length ≤ 1000000) (h2 : l2.length ≤ 1000000)
    (h : ∀ v' w', KX b bb T D n A0 vn0 w0 w' s u N vn ((v', .ints (l1 ++ l2)) :: L2) → wpList Tryz.prog ops Q rest (a.put o.dst v') w') : wpList Tryz.prog ops Q (o :: rest) a w :=
  wpList_plain hgd fun _ hK => wp_kx os ox ho hk hm hs hx hl hy h1 h2 fun v' w' h9 => hK _ _ (h v' w' h9)
theorem step_kx {ops : Array Oper} {o : Oper} {a : Act} {K : Act → World → Prop} {Q : Exit → Act → World → Prop} {E : Prop} (hgd : o.guard = none) (os ox : Operand) (ho : o.op = .call { callee := .builtin .append, args := #[os, ox], argTypes := #[52, 52] })
    {l1 l2 : List Int} {v1 : Value} {q : Option Addr} {m c : Nat} {L2 : List (Value × Th)} (hk : KX b bb T D n A0 vn0 w0 w s u N vn L) (hm : ((v1, Th.ints l1) :: L2).Sublist L) (hs : a.eval os = v1) (hx : a.eval ox = .slice q m c) (hl : l2.length = m) (hy : VAt w q (intsV l2)) (h1 : l1.length ≤ 1000000) (h2 : l2.length ≤ 1000000)
    (h : ∀ v' w', KX b bb T D n A0 vn0 w0 w' s u N vn ((v', .ints (l1 ++ l2)) :: L2) → K (a.put o.dst v') w') : if Region.wanted o (yielded ops a.tmps) = true then Oper.wp Tryz.prog o a w K Q else E := by
  have hw : Region.wanted o (yielded ops a.tmps) = true := by simp [Region.wanted, hgd]
  rw [if_pos hw]
  exact wp_kx os ox ho hk hm hs hx hl hy h1 h2 h

/-- A node of places that lie in a list of one's own. -/
theorem KX.node {k kind : Nat} {v : Value} {vs : List Int} {Ns : List Nd} {s0 : St} {r : RT} (hk : KX b bb T D n A0 vn0 w0 w s s.i N vn L) (hm : (v, Th.ints vs) ∈ L) (hT : T.length ≤ 40000) (hO : OutD (k + 1) Ns s0 r N vs) (hr : r.2 = s) (hN : Ns.length ≤ 2 * s0.i) (hl : vs.length ≤ 30000) :
    Calls Tryz.prog 64 #[.pointer (some ⟨bb, 0, none⟩), .int .i64 (kind : Int), v] w fun e w' => ∃ (x : Int) (N' : List Nd) (vn' : Value), e = .returned (.int .i64 x) ∧ KX b bb T D n A0 vn0 w0 w' s s.i N' vn' L ∧ OutD k Ns s0 ([.nd kind r.1], r.2) N' [x] := by
  obtain ⟨p, c, rfl, hv, -, -⟩ := hk.list hm
  have hk2 := hk
  obtain ⟨A, h1, h2, h3, h4, h5⟩ := hk
  have hfew := h1.few
  have hok := h1.ok
  by_cases he : r.2.e = 0
  · have hO2 := hO.node (kind := kind) he
    have hb := hO2.out.2
    refine (Node_far A bb T s.i N vn (kind : Int) vs p c w (by omega) (by omega) h1.bld h1.new hv (hO.ok he)).mono ?_
    rintro e w' ⟨rfl, vn', g1, g2, g3⟩
    obtain ⟨hx, hst⟩ := h1.bump g1 g2 g3 (by
      rw [← hr]
      have hb2 : (N ++ [(⟨(kind : Int), -1, vs⟩ : Nd)]).length + 2 * s0.i ≤ Ns.length + 2 * r.2.i := hb
      omega)
    exact ⟨_, _, vn', rfl, KX.go h2 h3 h4 h5 h1.lt hx hst, hO2⟩
  · refine (Node_none bb T s.i N vn (kind : Int) vs p c w (by omega) (by omega) h1.bld.bld hv (hO.no he)).mono ?_
    rintro e w' ⟨rfl, hg⟩
    exact ⟨-1, N, vn, rfl, hk2.kept hg, hO.none he⟩
end
end Go.Proofs.YtmlcpihedmmlfaaGreatDoor
