/- The document's lanes: two lists in a box. -/
import Derived.Test.YtponbjocaackcaaLAnc
namespace Go.Proofs.Ytponbjocaackcaa
open Go.RowKit Go.Conc

/-- A list in a box's field: nil, or a window of a block of one's own. -/
def FieldL (w : World) (B : Nat) (X : Nat → Prop) (r : Nat) (p : Option Addr) (c gl : Nat) (vs : List Value) : Prop :=
  (p = none ∧ c = 0 ∧ vs = []) ∨ (p ≠ none ∧ WinV 3 w p c gl vs ∧ B ≤ gl ∧ gl ≠ r ∧ ¬ X gl)

theorem FieldL.win {w : World} {B : Nat} {X : Nat → Prop} {r : Nat} {p : Option Addr} {c gl : Nat} {vs : List Value} (h : FieldL w B X r p c gl vs) : WinO 3 w p c gl vs := by
  rcases h with h | h
  · exact .inl h
  · exact .inr h.2.1

theorem FieldL.keptS {P : Nat → Prop} {w w' : World} {B : Nat} {X : Nat → Prop} {r : Nat} {p : Option Addr} {c gl : Nat} {vs : List Value} (h : FieldL w B X r p c gl vs) (hg : Fr2 P w w') (hP : p ≠ none → B ≤ gl → gl ≠ r → ¬ X gl → ¬ P gl) : FieldL w' B X r p c gl vs := by
  rcases h with h | ⟨h0, h1, h2, h3, h4⟩
  · exact .inl h
  · obtain ⟨off, cur, e1, e2, e3, e4, e5⟩ := h1
    exact .inr ⟨h0, ⟨off, cur, e1, e2, e3, hg.keep e4 (hP h0 h2 h3 h4), e5⟩, h2, h3, h4⟩

/-- The document's lanes at r: pu, ps: where the lists lie. -/
structure RefAt (w : World) (B : Nat) (X : Nat → Prop) (r room : Nat) (pu : Option Addr) (cu gu : Nat) (ps : Option Addr) (cs gs : Nat) (U S : List Value) (p : Nat) (sh : Bool) : Prop where
  box : w.heap[r]? = some (.cells #[.slice pu U.length cu, .slice ps S.length cs, .int .i64 room, .int .i64 p, .bool sh] 31 (0, 0))
  fu : FieldL w B X r pu cu gu U
  fs : FieldL w B X r ps cs gs S
  ap : pu ≠ none → ps ≠ none → gu ≠ gs
  at0 : B ≤ r ∧ ¬ X r

def RefAtE (w : World) (B : Nat) (X : Nat → Prop) (r room : Nat) (U S : List Value) (p : Nat) (sh : Bool) : Prop := ∃ pu cu gu ps cs gs, RefAt w B X r room pu cu gu ps cs gs U S p sh

theorem RefAt.keptS {P : Nat → Prop} {w w' : World} {B : Nat} {X : Nat → Prop} {r room : Nat} {pu : Option Addr} {cu gu : Nat} {ps : Option Addr} {cs gs : Nat} {U S : List Value} {p : Nat} {sh : Bool} (h : RefAt w B X r room pu cu gu ps cs gs U S p sh) (hg : Fr2 P w w') (hP : ∀ k, B ≤ k → ¬ X k → ¬ P k) : RefAt w' B X r room pu cu gu ps cs gs U S p sh :=
  ⟨hg.keep h.box (hP r h.at0.1 h.at0.2), h.fu.keptS hg (fun _ a _ c => hP gu a c), h.fs.keptS hg (fun _ a _ c => hP gs a c), h.ap, h.at0⟩

theorem RefAtE.keptS {P : Nat → Prop} {w w' : World} {B : Nat} {X : Nat → Prop} {r room : Nat} {U S : List Value} {p : Nat} {sh : Bool} (h : RefAtE w B X r room U S p sh) (hg : Fr2 P w w') (hP : ∀ k, B ≤ k → ¬ X k → ¬ P k) : RefAtE w' B X r room U S p sh := by
  obtain ⟨pu, cu, gu, ps, cs, gs, h⟩ := h
  exact ⟨pu, cu, gu, ps, cs, gs, h.keptS hg hP⟩

/-- What turns: what is one's own, but for X. -/
def Mine (B : Nat) (X : Nat → Prop) (k : Nat) : Prop := B ≤ k ∧ ¬ X k

def ROfferPost (B : Nat) (X : Nat → Prop) (r room : Nat) (U S : List Value) (p : Nat) (sh : Bool) (x : Value) (urgent : Bool) (w : World) (e : Ending) (w' : World) : Prop :=
  e = .returned (.int .i64 (LOffer room sh U S x urgent).1) ∧ RefAtE w' B X r room (LOffer room sh U S x urgent).2.1 (LOffer room sh U S x urgent).2.2 p sh ∧ Fr2 (Mine B X) w w'

section
variable {w : World} {B : Nat} {X : Nat → Prop} {r room : Nat} {pu : Option Addr} {cu gu : Nat} {ps : Option Addr} {cs gs : Nat} {U S : List Value} {p : Nat} {sh : Bool}

set_option maxRecDepth 100000 in
theorem ROffer_shut (h : RefAt w B X r room pu cu gu ps cs gs U S p true) (x : Int) (urgent : Bool) :
    Calls Try.prog 9 #[.pointer (some ⟨r, 0, none⟩), .int .i64 x, .bool urgent] w (ROfferPost B X r room U S p true (.int .i64 x) urgent w) := by
  obtain ⟨x0, x1, x2, x3, x4, -⟩ := cells5 h.box
  have H := Lib.hid h
  clear h
  go_enter Try.func9, Try.ntmps9
  go_wp2_with fail
  go_ret
  exact ⟨rfl, ⟨_, _, _, _, _, _, H.out⟩, Fr2.refl _ _⟩

/-- A list in a field has one more. -/
theorem RefAt.moreU {w1 w2 w3 : World} {pu' : Option Addr} {cu' gl gl' : Nat} {x : Value} (h : RefAt w B X r room pu cu gu ps cs gs U S p sh) (hX : ∀ k, X k → k < w.heap.size) (hB : B ≤ w.heap.size) (h1 : w.grownBy w1 none)
    (hgl : (gl = gu ∧ pu ≠ none) ∨ (pu = none ∧ w1.heap.size ≤ gl)) (hw : WinV 3 w2 pu' cu' gl' (U ++ [x])) (hgl' : gl' = gl ∨ w1.heap.size ≤ gl') (hf : Fr2 (fun k => k = gl) w1 w2) (h3 : w3 = w2.setCell ⟨r, 0, none⟩ (.slice pu' (U.length + 1) cu')) :
    RefAtE w3 B X r room (U ++ [x]) S p sh ∧ Fr2 (Mine B X) w w3 := by
  have hr := hlt h.box
  have hs1 := h1.size
  have hub : pu ≠ none → B ≤ gu ∧ gu ≠ r ∧ ¬ X gu := fun h0 => by
    rcases h.fu with ⟨e, -⟩ | ⟨-, -, a, b, c⟩
    · exact absurd e h0
    · exact ⟨a, b, c⟩
  have hsb : ps ≠ none → B ≤ gs ∧ gs ≠ r ∧ ¬ X gs ∧ gs < w.heap.size := fun h0 => by
    rcases h.fs with ⟨e, -⟩ | ⟨-, a1, a, b, c⟩
    · exact absurd e h0
    · exact ⟨a, b, c, a1.lt⟩
  have hglr : gl ≠ r := by
    rcases hgl with ⟨e, h0⟩ | ⟨-, e⟩
    · rw [e]; exact (hub h0).2.1
    · omega
  have hgl'r : gl' ≠ r ∧ B ≤ gl' ∧ ¬ X gl' := by
    have : gl' = gu ∧ pu ≠ none ∨ w1.heap.size ≤ gl' := by
      rcases hgl' with e | e
      · rcases hgl with ⟨e2, h0⟩ | ⟨-, e2⟩
        · exact .inl ⟨by omega, h0⟩
        · exact .inr (by omega)
      · exact .inr e
    rcases this with ⟨e, h0⟩ | e
    · rw [e]; exact ⟨(hub h0).2.1, (hub h0).1, (hub h0).2.2⟩
    · exact ⟨by omega, by omega, fun hx => by have := hX _ hx; omega⟩
  have hb2 : w2.heap[r]? = _ := hf.keep (bx h1 h.box) hglr.symm
  have hf3 : Fr2 (fun k => k = r) w2 w3 := h3 ▸ Fr2.setCell (S := fun k => k = r) (Fr2.refl _ _) rfl _
  refine ⟨⟨pu', cu', gl', ps, cs, gs, ⟨?_, ?_, ?_, ?_, h.at0⟩⟩, ?_⟩
  · rw [h3, List.length_append]; exact set_cells hb2
  · obtain ⟨off, cur, e1, e2, e3, e4, e5⟩ := hw
    exact .inr ⟨by rw [e1]; simp, ⟨off, cur, e1, e2, e3, hf3.keep e4 hgl'r.1, e5⟩, hgl'r.2.1, hgl'r.1, hgl'r.2.2⟩
  · exact ((h.fs.keptS (Fr2.none (S := fun _ => False) h1) (fun _ _ _ _ h => h)).keptS hf (fun h0 _ _ _ e => by
      rcases hgl with ⟨e2, h1⟩ | ⟨-, e2⟩
      · exact h.ap h1 h0 (by omega)
      · have := (hsb h0).2.2.2; omega)).keptS hf3 (fun _ _ a _ => a)
  · intro _ h0
    rcases hgl' with e | e
    · rcases hgl with ⟨e2, h1⟩ | ⟨-, e2⟩
      · rw [e, e2]; exact h.ap h1 h0
      · have := (hsb h0).2.2.2; omega
    · have := (hsb h0).2.2.2; omega
  · refine ((Fr2.none h1).trans (?_ : Fr2 (Mine B X) w1 w2)).trans (hf3.mono fun k e => e ▸ h.at0)
    refine ⟨hf.os, hf.tape, hf.output, hf.size, fun k hk hn => hf.block k hk fun e => ?_⟩
    rcases hgl with ⟨e2, h0⟩ | ⟨-, e2⟩
    · exact hn (by rw [e, e2]; exact ⟨(hub h0).1, (hub h0).2.2⟩)
    · omega

theorem RefAt.moreS {w1 w2 w3 : World} {ps' : Option Addr} {cs' gl gl' : Nat} {x : Value} (h : RefAt w B X r room pu cu gu ps cs gs U S p sh) (hX : ∀ k, X k → k < w.heap.size) (hB : B ≤ w.heap.size) (h1 : w.grownBy w1 none)
    (hgl : (gl = gs ∧ ps ≠ none) ∨ (ps = none ∧ w1.heap.size ≤ gl)) (hw : WinV 3 w2 ps' cs' gl' (S ++ [x])) (hgl' : gl' = gl ∨ w1.heap.size ≤ gl') (hf : Fr2 (fun k => k = gl) w1 w2) (h3 : w3 = w2.setCell ⟨r, 1, none⟩ (.slice ps' (S.length + 1) cs')) :
    RefAtE w3 B X r room U (S ++ [x]) p sh ∧ Fr2 (Mine B X) w w3 := by
  have hr := hlt h.box
  have hs1 := h1.size
  have hub : ps ≠ none → B ≤ gs ∧ gs ≠ r ∧ ¬ X gs := fun h0 => by
    rcases h.fs with ⟨e, -⟩ | ⟨-, -, a, b, c⟩
    · exact absurd e h0
    · exact ⟨a, b, c⟩
  have hsb : pu ≠ none → B ≤ gu ∧ gu ≠ r ∧ ¬ X gu ∧ gu < w.heap.size := fun h0 => by
    rcases h.fu with ⟨e, -⟩ | ⟨-, a1, a, b, c⟩
    · exact absurd e h0
    · exact ⟨a, b, c, a1.lt⟩
  have hglr : gl ≠ r := by
    rcases hgl with ⟨e, h0⟩ | ⟨-, e⟩
    · rw [e]; exact (hub h0).2.1
    · omega
  have hgl'r : gl' ≠ r ∧ B ≤ gl' ∧ ¬ X gl' := by
    have : gl' = gs ∧ ps ≠ none ∨ w1.heap.size ≤ gl' := by
      rcases hgl' with e | e
      · rcases hgl with ⟨e2, h0⟩ | ⟨-, e2⟩
        · exact .inl ⟨by omega, h0⟩
        · exact .inr (by omega)
      · exact .inr e
    rcases this with ⟨e, h0⟩ | e
    · rw [e]; exact ⟨(hub h0).2.1, (hub h0).1, (hub h0).2.2⟩
    · exact ⟨by omega, by omega, fun hx => by have := hX _ hx; omega⟩
  have hb2 : w2.heap[r]? = _ := hf.keep (bx h1 h.box) hglr.symm
  have hf3 : Fr2 (fun k => k = r) w2 w3 := h3 ▸ Fr2.setCell (S := fun k => k = r) (Fr2.refl _ _) rfl _
  refine ⟨⟨pu, cu, gu, ps', cs', gl', ⟨?_, ?_, ?_, ?_, h.at0⟩⟩, ?_⟩
  · rw [h3, List.length_append]; exact set_cells hb2
  · exact ((h.fu.keptS (Fr2.none (S := fun _ => False) h1) (fun _ _ _ _ h => h)).keptS hf (fun h0 _ _ _ e => by
      rcases hgl with ⟨e2, h1⟩ | ⟨-, e2⟩
      · exact h.ap h0 h1 (by omega)
      · have := (hsb h0).2.2.2; omega)).keptS hf3 (fun _ _ a _ => a)
  · obtain ⟨off, cur, e1, e2, e3, e4, e5⟩ := hw
    exact .inr ⟨by rw [e1]; simp, ⟨off, cur, e1, e2, e3, hf3.keep e4 hgl'r.1, e5⟩, hgl'r.2.1, hgl'r.1, hgl'r.2.2⟩
  · intro h0 _
    rcases hgl' with e | e
    · rcases hgl with ⟨e2, h1⟩ | ⟨-, e2⟩
      · rw [e, e2]; exact h.ap h0 h1
      · have := (hsb h0).2.2.2; omega
    · have := (hsb h0).2.2.2; omega
  · refine ((Fr2.none h1).trans (?_ : Fr2 (Mine B X) w1 w2)).trans (hf3.mono fun k e => e ▸ h.at0)
    refine ⟨hf.os, hf.tape, hf.output, hf.size, fun k hk hn => hf.block k hk fun e => ?_⟩
    rcases hgl with ⟨e2, h0⟩ | ⟨-, e2⟩
    · exact hn (by rw [e, e2]; exact ⟨(hub h0).1, (hub h0).2.2⟩)
    · omega
end
end Go.Proofs.Ytponbjocaackcaa
