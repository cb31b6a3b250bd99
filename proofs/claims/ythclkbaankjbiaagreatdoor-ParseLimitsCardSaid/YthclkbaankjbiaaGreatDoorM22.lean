/- All that is nested, by induction on how deep. -/
import Derived.Test.YthclkbaankjbiaaGreatDoorM17
import Derived.Test.YthclkbaankjbiaaGreatDoorM18
import Derived.Test.YthclkbaankjbiaaGreatDoorQName
import Derived.Test.YthclkbaankjbiaaGreatDoorQAtom
import Derived.Test.YthclkbaankjbiaaGreatDoorM21
namespace Go.Proofs.YthclkbaankjbiaaGreatDoor
open Go.RowKit

structure NxC (b : Nat) (q : Option Addr) (c : Nat) (T : List Tok) (D d n : Nat) : Prop where
  expr : SubC b q c T D 44 n (nxQ T D d).expr
  formula : n ≤ D → SubC b q c T D 82 n (nxQ T D d).formula
  nots : n ≤ D → SubC b q c T D 127 n (nxQ T D d).nots
  factor : n ≤ D → SubC b q c T D 150 n (nxQ T D d).factor

theorem nx_c (b : Nat) (q : Option Addr) (c : Nat) (T : List Tok) (D : Nat) (hE : EndT T) (hR : roomQ T T.length ≤ 10000000) (hD : D ≤ 900) : ∀ d n, n + d = D + 1 → NxC b q c T D d n
  | 0, n, h => ⟨fun s w hp => by
      have h1 := expr0_c b q c T D hE hR n (by omega) (n + 1) rfl (by omega) s w hp
      have e : D + 1 = n := by omega
      show Calls Tryz.prog _ _ w (RPost b q c T D (([] : List UInt8), nestQ T D (D + 1) s) w)
      rw [e]; exact h1, fun h1 => absurd h1 (by omega), fun h1 => absurd h1 (by omega), fun h1 => absurd h1 (by omega)⟩
  | d + 1, n, h => by
    have ih := nx_c b q c T D hE hR hD d (n + 1) (by omega)
    have hf := nx_fits T D d
    have e : D - d = n := by omega
    have hn : n ≤ 1000 := by omega
    have args : SubC b q c T D 157 n (argsQ T (nxQ T D d)) := fun s w hp => args_c b q c T D hE hR n (n + 1) rfl hn _ ih.expr hf.1 s w hp
    have name : SubC b q c T D 154 n (nameQ T (nxQ T D d)) := fun s w hp => name_c b q c T D hE hR n (nxQ T D d) (n + 1) rfl hn args (args_fits hf) s w hp
    have atom : SubC b q c T D 152 n (atomQ T (nxQ T D d)) := fun s w hp => atom_c b q c T D hE hR n (nxQ T D d) (n + 1) rfl hn name (name_fits hf) ih.expr hf.1 s w hp
    have factor : SubC b q c T D 150 n (factorQ T D n (nxQ T D d)) := fun s w hp => factor_c b q c T D hE hR n (nxQ T D d) (n + 1) rfl hn atom (atom_fits hf) ih.factor hf.2.2.2 s w hp
    have product : SubC b q c T D 148 n (productQ T D n (nxQ T D d)) := fun s w hp => product_c b q c T D hE hR n _ factor (factor_fits hf) s w hp
    have sum : SubC b q c T D 140 n (sumQ T D n (nxQ T D d)) := fun s w hp => sum_c b q c T D hE hR n _ product (product_fits hf) s w hp
    have nots : SubC b q c T D 127 n (notQ T D n (nxQ T D d)) := fun s w hp => not_c b q c T D hE hR n (nxQ T D d) (n + 1) rfl hn sum (sum_fits hf) ih.nots hf.2.2.1 s w hp
    have and : SubC b q c T D 117 n (andQ T D n (nxQ T D d)) := fun s w hp => and_c b q c T D hE hR n _ nots (not_fits hf) s w hp
    have or : SubC b q c T D 106 n (orQ T D n (nxQ T D d)) := fun s w hp => or_c b q c T D hE hR n _ and (and_fits hf) s w hp
    have formula : SubC b q c T D 82 n (formulaQ T D n (nxQ T D d)) := fun s w hp => formula_c b q c T D hE hR n (nxQ T D d) (n + 1) rfl hn or (or_fits hf) ih.formula hf.2.1 s w hp
    have expr : SubC b q c T D 44 n (exprQ T D n (nxQ T D d)) := fun s w hp => expr_c b q c T D hE hR n (nxQ T D d) (n + 1) rfl hn formula (formula_fits hf) ih.expr hf.1 s w hp
    rw [← e] at expr formula nots factor
    rw [← e]
    exact ⟨expr, fun _ => formula, fun _ => nots, fun _ => factor⟩
end Go.Proofs.YthclkbaankjbiaaGreatDoor
namespace Go.Proofs.YthclkbaankjbiaaGreatDoor

def setIn (v : Bool) (s : St) : St := { s with inn := v }
section
variable (T : List Tok) (ex : St → RQ)
def typB (a : RQ) : RQ :=
  if isQ T [105, 110, 116] a.2 = true ∨ isQ T [98, 111, 111, 108] a.2 = true then (a.1 ++ ([32, 40, 53] ++ (leafQ T a.2).1 ++ [41]), (leafQ T a.2).2)
  else (a.1, failQ T 22 a.2)
def typC (b : RQ) : RQ :=
  if isQ T [123] b.2 = true then
    let f := ex (setIn true (leafQ T b.2).2)
    let m := mustQ T [125] (setIn false f.2)
    (b.1 ++ ([32, 40, 54] ++ (leafQ T b.2).1 ++ f.1 ++ m.1 ++ [41]), m.2)
  else b
def typedQ (s : St) : RQ := typC T ex (typB T (mustQ T [58] s))
def parQ (s : St) : RQ :=
  let k := kindQ T 1 s
  let t := typedQ T ex k.2
  ([32, 40, 52] ++ k.1 ++ t.1 ++ [41], t.2)
def paramsQ (s : St) : RQ := partsQ T (parQ T ex) (fuelQ T (parQ T ex s).2) 1 (parQ T ex s)
def defA (s : St) : RQ := if isQ T [112, 117, 98] s = true then ([32, 40, 51] ++ (leafQ T s).1, (leafQ T s).2) else ([32, 40, 51], s)
def defB (p : RQ) : RQ :=
  let u := mustQ T [102, 117, 110] p.2
  let k := kindQ T 1 u.2
  let o := mustQ T [40] k.2
  (p.1 ++ (u.1 ++ k.1 ++ o.1), o.2)
def defC (o : RQ) : RQ := if o.2.e = 0 ∧ isQ T [41] o.2 = false then (o.1 ++ (paramsQ T ex o.2).1, (paramsQ T ex o.2).2) else o
def defD (r : RQ) : RQ :=
  let c := mustQ T [41] r.2
  let t := typedQ T ex c.2
  let q := mustQ T [61] t.2
  let x := ex q.2
  let m := mustQ T [59] x.2
  (r.1 ++ (c.1 ++ t.1 ++ q.1) ++ x.1 ++ m.1 ++ [41], m.2)
def defQ (s : St) : RQ := defD T ex (defC T ex (defB T (defA T s)))
def impStep (r : RQ) : RQ :=
  let l := leafQ T r.2
  let k := kindQ T 1 l.2
  let m := mustQ T [59] k.2
  (r.1 ++ ([32, 40, 50] ++ l.1 ++ k.1 ++ m.1 ++ [41]), m.2)
/-- Imports, or definitions: none where there are too many. -/
def manyQ (c : St → Bool) (step : RQ → RQ) (most : Nat) : Nat → Nat → RQ → Bool × RQ
  | 0, _, r => (true, r)
  | f + 1, k, r => if c r.2 = true then (if k = most then (false, ([], failQ T 15 r.2)) else manyQ c step most f (k + 1) (step r)) else (true, r)
def isDef (s : St) : Bool := isQ T [112, 117, 98] s || isQ T [102, 117, 110] s
def importsQ (r : RQ) : Bool × RQ := manyQ T (isQ T [105, 109, 112, 111, 114, 116]) (impStep T) 16 (fuelQ T r.2) 0 r
def defStep (r : RQ) : RQ := (r.1 ++ (defQ T ex r.2).1, (defQ T ex r.2).2)
def defsQ (r : RQ) : Bool × RQ := manyQ T (isDef T) (defStep T ex) 64 (fuelQ T r.2) 0 r
def endQ (r : RQ) : RQ := (r.1 ++ (kindQ T 5 r.2).1 ++ [41], (kindQ T 5 r.2).2)
def programQ (s : St) : RQ :=
  if (importsQ T ([40, 49], s)).1 = false then (importsQ T ([40, 49], s)).2
  else if (defsQ T ex (importsQ T ([40, 49], s)).2).1 = false then (defsQ T ex (importsQ T ([40, 49], s)).2).2
  else endQ T (defsQ T ex (importsQ T ([40, 49], s)).2).2
def aloneQ (s : St) : RQ :=
  let x := ex (setIn true s)
  let k := kindQ T 5 x.2
  ([40, 49, 56] ++ x.1 ++ k.1 ++ [41], k.2)
end

section
variable {T : List Tok} {ex : St → RQ} (hX : ∀ s, Fits T s (ex s))
include hX
omit hX in
theorem typB_fits {s : St} {a : RQ} (h : Fits T s a) : Fits T s (typB T a) := by
  unfold typB
  split
  · rename_i hk
    have h0 := (leaf_fits (T := T) (s := a.2) (by rcases hk with hk | hk <;> exact (is_kind hk).1)).1
    unfold Fits at h ⊢
    simp only [List.length_append, List.length_cons, List.length_nil]; omega
  · unfold Fits at h ⊢
    show a.1.length + _ ≤ roomQ T (failQ T 22 a.2).i
    rw [fail_i]; exact h
theorem typC_fits {s : St} {a : RQ} (h : Fits T s a) : Fits T s (typC T ex a) := by
  unfold typC
  split
  · rename_i hk
    have h0 := (leaf_fits (is_kind hk).1).1
    have h1 := hX (setIn true (leafQ T a.2).2)
    have h2 := must_fits T [125] (setIn false (ex (setIn true (leafQ T a.2).2)).2)
    unfold Fits at h h1 h2 ⊢
    simp only [setIn] at h1 h2 ⊢
    simp only [List.length_append, List.length_cons, List.length_nil]; omega
  · exact h
theorem typed_fits (s : St) : Fits T s (typedQ T ex s) := typC_fits hX (typB_fits (must_fits T _ s))
theorem par_fits (s : St) : Fits4 T s (parQ T ex s) := by
  have h1 := kind_fits (T := T) (k := 1) (by decide) s
  have h2 := typed_fits hX (kindQ T 1 s).2
  unfold Fits at h1 h2
  unfold Fits4 parQ
  simp only [List.length_append, List.length_cons, List.length_nil]; omega
omit hX in
theorem parts_fits4 {sub : St → RQ} (hs : ∀ s, Fits4 T s (sub s)) {s : St} : ∀ f k (r : RQ), Fits4 T s r → Fits4 T s (partsQ T sub f k r) := by
  intro f
  induction f with
  | zero => intro k r h; exact h
  | succ f ih =>
    intro k r h
    unfold partsQ
    split
    · rename_i hcc
      refine ih _ _ ?_
      have h1 := (leaf_fits (is_kind hcc).1).1
      have h2 := hs (afterQ T k r.2)
      show Fits4 T s (partStep T sub k r)
      unfold Fits4 at h h2 ⊢
      rw [after_i] at h2
      unfold partStep
      simp only [List.length_append]
      omega
    · exact h
theorem params_fits (s : St) : Fits4 T s (paramsQ T ex s) := parts_fits4 (par_fits hX) _ _ _ (par_fits hX s)

/-- An answer is no longer than the room behind A, by four. -/
def RoomB (T : List Tok) (A : Nat) (r : RQ) : Prop := r.1.length + A ≤ roomQ T r.2.i + 4
omit hX in
theorem defB_fits {A : Nat} {p : RQ} (h : RoomB T A p) : RoomB T A (defB T p) := by
  have h1 := must_fits T [102, 117, 110] p.2
  have h2 := kind_fits (T := T) (k := 1) (by decide) (mustQ T [102, 117, 110] p.2).2
  have h3 := must_fits T [40] (kindQ T 1 (mustQ T [102, 117, 110] p.2).2).2
  unfold Fits at h1 h2 h3
  unfold RoomB at h ⊢
  unfold defB
  simp only [List.length_append]; omega
omit hX in
/-- What passes has room to spare. -/
theorem must_spare {x : List UInt8} {s : St} (h : (mustQ T x s).2.e = 0) : (mustQ T x s).1.length + 7 + roomQ T s.i ≤ roomQ T (mustQ T x s).2.i := by
  unfold mustQ at h ⊢
  split
  · rename_i hk; exact (leaf_fits (is_kind hk).1).1
  · rename_i hk; rw [if_neg hk] at h; exact absurd h (fail_e T (by decide) s)
/-- The first word's own room, if it comes here. -/
theorem defC_fits {A : Nat} {p : RQ} (h : ∀ m, m ≤ roomQ T (mustQ T [102, 117, 110] p.2).2.i → p.1.length + (mustQ T [102, 117, 110] p.2).1.length + A ≤ roomQ T (mustQ T [102, 117, 110] p.2).2.i + 4) : RoomB T A (defC T ex (defB T p)) := by
  have h0 := h 0 (Nat.zero_le _)
  have h2 := kind_fits (T := T) (k := 1) (by decide) (mustQ T [102, 117, 110] p.2).2
  unfold Fits at h2
  unfold defC
  split
  · rename_i hc
    have h3 := must_spare (T := T) (x := [40]) (s := (kindQ T 1 (mustQ T [102, 117, 110] p.2).2).2) hc.1
    have h4 := params_fits hX (defB T p).2
    unfold Fits4 at h4
    unfold RoomB
    unfold defB at h4 ⊢
    simp only [List.length_append] at h4 ⊢; omega
  · have h3 := must_fits T [40] (kindQ T 1 (mustQ T [102, 117, 110] p.2).2).2
    unfold Fits at h3
    unfold RoomB defB
    simp only [List.length_append]; omega
theorem defD_fits {A : Nat} {r : RQ} (h : RoomB T (A + 1) r) : RoomB T A (defD T ex r) := by
  have h1 := must_fits T [41] r.2
  have h2 := typed_fits hX (mustQ T [41] r.2).2
  have h3 := must_fits T [61] (typedQ T ex (mustQ T [41] r.2).2).2
  have h4 := hX (mustQ T [61] (typedQ T ex (mustQ T [41] r.2).2).2).2
  have h5 := must_fits T [59] (ex (mustQ T [61] (typedQ T ex (mustQ T [41] r.2).2).2).2).2
  unfold Fits at h1 h2 h3 h4 h5
  unfold RoomB at h ⊢
  unfold defD
  simp only [List.length_append, List.length_cons, List.length_nil]; omega
/-- A definition whose first word comes. -/
theorem def_fits {s : St} (hd : isDef T s = true) : Fits T s (defQ T ex s) := by
  have key : RoomB T (roomQ T s.i + 4) (defQ T ex s) := by
    refine defD_fits hX (defC_fits hX fun _ _ => ?_)
    unfold isDef at hd
    cases hp : isQ T [112, 117, 98] s
    · rw [hp] at hd
      have hf : isQ T [102, 117, 110] s = true := by simpa using hd
      have e1 : defA T s = ([32, 40, 51], s) := by unfold defA; rw [hp]; rfl
      have e2 : (mustQ T [102, 117, 110] s) = leafQ T s := by unfold mustQ; rw [if_pos hf]
      have h0 := (leaf_fits (is_kind hf).1).1
      rw [e1]
      simp only [e2, List.length_cons, List.length_nil]; omega
    · have h0 := (leaf_fits (is_kind hp).1).1
      have e1 : defA T s = ([32, 40, 51] ++ (leafQ T s).1, (leafQ T s).2) := by unfold defA; rw [if_pos hp]
      have h1 := must_fits T [102, 117, 110] (leafQ T s).2
      unfold Fits at h1
      rw [e1]
      simp only [List.length_append, List.length_cons, List.length_nil]; omega
  unfold RoomB at key
  unfold Fits
  omega
omit hX in
theorem imp_fits {s0 : St} {r : RQ} (h : RoomB T (roomQ T s0.i) r) (hc : isQ T [105, 109, 112, 111, 114, 116] r.2 = true) : RoomB T (roomQ T s0.i) (impStep T r) ∧ r.2.i < (impStep T r).2.i ∨ T.length < r.2.i := by
  rcases Nat.lt_or_ge T.length r.2.i with hl | hl
  · exact .inr hl
  · left
    have h0 := leaf_fits (is_kind hc).1
    have h1 := kind_fits (T := T) (k := 1) (by decide) (leafQ T r.2).2
    have h2 := must_fits T [59] (kindQ T 1 (leafQ T r.2).2).2
    have hl2 : (leafQ T r.2).2.i ≤ T.length := by
      have ht : r.2.i < T.length := by
        rcases Nat.lt_or_ge r.2.i T.length with h3 | h3
        · exact h3
        · exfalso
          refine (is_kind hc).1 ?_
          unfold tokQ
          rw [List.getElem?_eq_none h3]; rfl
      omega
    have m1 := fits_mono h1 hl2
    have hk2 : (kindQ T 1 (leafQ T r.2).2).2.i ≤ T.length := by
      unfold kindQ
      split
      · rename_i hk
        have h3 := leaf_fits (T := T) (s := (leafQ T r.2).2) (by rw [hk.2]; decide)
        rcases Nat.lt_or_ge (leafQ T r.2).2.i T.length with h4 | h4
        · omega
        · exfalso
          have := hk.2
          unfold tokQ at this
          rw [List.getElem?_eq_none h4] at this
          exact absurd this (by decide)
      · rw [fail_i]; exact hl2
    have m2 := fits_mono h2 hk2
    unfold Fits at h1 h2
    refine ⟨?_, ?_⟩
    · unfold RoomB at h ⊢
      unfold impStep
      simp only [List.length_append, List.length_cons, List.length_nil]; omega
    · show r.2.i < (mustQ T [59] (kindQ T 1 (leafQ T r.2).2).2).2.i
      omega
end

/-- What a function without a number does. -/
def SubN (b : Nat) (q : Option Addr) (c : Nat) (T : List Tok) (D : Nat) (f : Nat) (sub : St → RQ) : Prop :=
  ∀ s w, PAt w b q c T D s → Calls Tryz.prog f #[.pointer (some ⟨b, 0, none⟩)] w (RPost b q c T D (sub s) w)
theorem PAt.setIn {w : World} {b : Nat} {q : Option Addr} {c : Nat} {T : List Tok} {D : Nat} {s : St} (h : PAt w b q c T D s) (v : Bool) : PAt (w.setCell ⟨b, 3, none⟩ (.bool v)) b q c T D (setIn v s) :=
  h.turn ((Fr2.refl _ _).setCell (mine b) _) ((set_cells (i := 3) h.box).trans rfl) h.ok
theorem kind_len {T : List Tok} (hR : roomQ T T.length ≤ 10000000) {k : Nat} {s : St} (h : s.i < T.length) : (kindQ T k s).1.length ≤ 10000000 := by
  unfold kindQ
  split
  · exact leaf_lenA hR h
  · exact Nat.zero_le _
end Go.Proofs.YthclkbaankjbiaaGreatDoor
namespace Go.Proofs.YthclkbaankjbiaaGreatDoor
open Go.RowKit
section
variable (b : Nat) (q : Option Addr) (c : Nat) (T : List Tok) (D : Nat)
variable (hE : EndT T) (hR : roomQ T T.length ≤ 10000000) (n : Nat) (nx : Nx) (ex : St → RQ)
include hE hR

set_option maxRecDepth 100000 in
set_option maxHeartbeats 4000000 in
theorem typed_c  (hX : SubC b q c T D 44 1 (ex)) (fX : ∀ s, Fits T s (ex s)) (s0 : St) (w : World) (h : PAt w b q c T D s0) : Calls Tryz.prog 84 #[.pointer (some ⟨b, 0, none⟩)] w (RPost b q c T D (typedQ T ex s0) w) := by
  have HI := Lib.hid (fun x s w h => is_c b q c T D x s w h)
  have HL := Lib.hid (fun s w h => leaf_c b q c T D hE hR s w h)
  have HMU := Lib.hid (fun x s w h => must_c b q c T D hE hR x s w h)
  have HKI := Lib.hid (fun k s w h => kind_c b q c T D hE hR k s w h)
  have HFA := Lib.hid (fun e s w h => fail_c b q c T D e s w h)
  have HSX := Lib.hid hX; have HTX := Lib.hid fX
  have HR := Lib.hid hR; have HP0 := Lib.hid h; have HG0 : Hid (Fr2 (Self b) w w) := Lib.hid (Fr2.refl _ _)
  clear hE hR h hX fX
  go_enter Tryz.func84, Tryz.ntmps84
  go_wp2_with fail
  all_goals (try (exfalso; (simp at *; omega)))
  refine (HMU.out [58] _ _ HP0.out).mono ?_
  rintro e w1 ⟨⟨x1, rfl, hx⟩, h2, f2⟩
  have hxs1 : x1.size ≤ 10000100 := by rw [qsize hx]; exact Nat.le_trans (len_ok HR.out (must_fits T _ _)) (by decide)
  obtain ⟨s1, hs⟩ : ∃ s1, (mustQ T [58] s0).2 = s1 := ⟨_, rfl⟩
  have HX1 := Lib.hid hx; have HE1 := Lib.hid hs; have HP1 : Hid (PAt w1 b q c T D s1) := Lib.hid (hs ▸ h2); have HG1 := Lib.hid (HG0.out.trans f2)
  clear hx h2 f2 hs
  go_wp2_with fail
  all_goals (try (exfalso; (simp at *; omega)))
  refine (HI.out [105, 110, 116] _ _ HP1.out).mono ?_
  rintro e w2 ⟨rfl, h2, f2⟩
  have HP2 : Hid (PAt w2 b q c T D s1) := Lib.hid h2; have HG2 := Lib.hid (HG1.out.trans f2)
  obtain ⟨b2, hb⟩ : ∃ b2, isQ T [105, 110, 116] s1 = b2 := ⟨_, rfl⟩
  rw [hb]
  have HV2 := Lib.hid hb
  clear h2 f2 hb
  cases b2
  · skip
    go_wp2_with fail
    all_goals (try (exfalso; (simp at *; omega)))
    refine (HI.out [98, 111, 111, 108] _ _ HP2.out).mono ?_
    rintro e w3 ⟨rfl, h2, f2⟩
    have HP3 : Hid (PAt w3 b q c T D s1) := Lib.hid h2; have HG3 := Lib.hid (HG2.out.trans f2)
    obtain ⟨b3, hb⟩ : ∃ b3, isQ T [98, 111, 111, 108] s1 = b3 := ⟨_, rfl⟩
    rw [hb]
    have HV3 := Lib.hid hb
    clear h2 f2 hb
    cases b3
    · skip
      go_wp2_with fail
      all_goals (try (exfalso; (simp at *; omega)))
      refine (HFA.out 22 _ _ HP3.out).mono ?_
      rintro e w4 ⟨rfl, h2, f2⟩
      obtain ⟨s4, hs⟩ : ∃ s4, failQ T 22 s1 = s4 := ⟨_, rfl⟩
      have HE4 := Lib.hid hs; have HP4 : Hid (PAt w4 b q c T D s4) := Lib.hid (hs ▸ h2); have HG4 := Lib.hid (HG3.out.trans f2)
      clear h2 f2 hs
      go_wp2_with fail
      all_goals (try (exfalso; (simp at *; omega)))
      refine (HI.out [123] _ _ HP4.out).mono ?_
      rintro e w5 ⟨rfl, h2, f2⟩
      have HP5 : Hid (PAt w5 b q c T D s4) := Lib.hid h2; have HG5 := Lib.hid (HG4.out.trans f2)
      obtain ⟨b5, hb⟩ : ∃ b5, isQ T [123] s4 = b5 := ⟨_, rfl⟩
      rw [hb]
      have HV5 := Lib.hid hb
      clear h2 f2 hb
      cases b5
      · skip
        go_wp2_with fail
        all_goals (try (exfalso; (simp at *; omega)))
        go_ret
        have hM : ((typedQ T ex) s0).2 = s4 := by simp [typedQ, typB, typC, HX1.out, HE1.out, HV2.out, HV3.out, HE4.out, HV5.out]
        exact ⟨⟨_, rfl, by simp [typedQ, typB, typC, qapp, HX1.out, HE1.out, HV2.out, HV3.out, HE4.out, HV5.out]⟩, by rw [hM]; exact HP5.out, HG5.out⟩
      · skip
        go_wp2_with fail
        all_goals (try (exfalso; (simp at *; omega)))
        have HPo6 : Hid (s4.i < T.length) := Lib.hid HP5.out.ok
        refine (HL.out _ _ HP5.out).mono ?_
        rintro e w6 ⟨⟨x6, rfl, hx⟩, h2, f2⟩
        have hxs6 : x6.size ≤ 10000100 := by rw [qsize hx]; exact Nat.le_trans (leaf_lenA HR.out HPo6.out) (by decide)
        obtain ⟨s6, hs⟩ : ∃ s6, (leafQ T s4).2 = s6 := ⟨_, rfl⟩
        have HX6 := Lib.hid hx; have HE6 := Lib.hid hs; have HP6 : Hid (PAt w6 b q c T D s6) := Lib.hid (hs ▸ h2); have HG6 := Lib.hid (HG5.out.trans f2)
        clear hx h2 f2 hs
        obtain ⟨d0, d1, d2, d3, d4, d5, d6⟩ := cells6 HP6.out.box
        obtain ⟨s7, hs⟩ : ∃ s7, setIn true s6 = s7 := ⟨_, rfl⟩
        have HE7 := Lib.hid hs
        have HP7 : Hid (PAt (w6.setCell ⟨b, 3, none⟩ (.bool true)) b q c T D s7) := Lib.hid (hs ▸ HP6.out.setIn true); have HG7 : Hid (Fr2 (Self b) w (w6.setCell ⟨b, 3, none⟩ (.bool true))) := Lib.hid (HG6.out.setCell (mine b) _)
        clear hs d0 d1 d2 d4 d5
        go_wp2_with fail
        all_goals (try (exfalso; (simp at *; omega)))
        refine (HSX.out _ _ HP7.out).mono ?_
        rintro e w8 ⟨⟨x8, rfl, hx⟩, h2, f2⟩
        have hxs8 : x8.size ≤ 10000100 := by rw [qsize hx]; exact Nat.le_trans (len_ok HR.out (HTX.out _)) (by decide)
        obtain ⟨s8, hs⟩ : ∃ s8, ((ex) s7).2 = s8 := ⟨_, rfl⟩
        have HX8 := Lib.hid hx; have HE8 := Lib.hid hs; have HP8 : Hid (PAt w8 b q c T D s8) := Lib.hid (hs ▸ h2); have HG8 := Lib.hid (HG7.out.trans f2)
        clear hx h2 f2 hs
        obtain ⟨d0, d1, d2, d3, d4, d5, d6⟩ := cells6 HP8.out.box
        obtain ⟨s9, hs⟩ : ∃ s9, setIn false s8 = s9 := ⟨_, rfl⟩
        have HE9 := Lib.hid hs
        have HP9 : Hid (PAt (w8.setCell ⟨b, 3, none⟩ (.bool false)) b q c T D s9) := Lib.hid (hs ▸ HP8.out.setIn false); have HG9 : Hid (Fr2 (Self b) w (w8.setCell ⟨b, 3, none⟩ (.bool false))) := Lib.hid (HG8.out.setCell (mine b) _)
        clear hs d0 d1 d2 d4 d5
        go_wp2_with fail
        all_goals (try (exfalso; (simp at *; omega)))
        refine (HMU.out [125] _ _ HP9.out).mono ?_
        rintro e w10 ⟨⟨x10, rfl, hx⟩, h2, f2⟩
        have hxs10 : x10.size ≤ 10000100 := by rw [qsize hx]; exact Nat.le_trans (len_ok HR.out (must_fits T _ _)) (by decide)
        obtain ⟨s10, hs⟩ : ∃ s10, (mustQ T [125] s9).2 = s10 := ⟨_, rfl⟩
        have HX10 := Lib.hid hx; have HE10 := Lib.hid hs; have HP10 : Hid (PAt w10 b q c T D s10) := Lib.hid (hs ▸ h2); have HG10 := Lib.hid (HG9.out.trans f2)
        clear hx h2 f2 hs
        go_wp2_with fail
        all_goals (try (exfalso; (simp at *; omega)))
        go_ret
        have hM : ((typedQ T ex) s0).2 = s10 := by simp [typedQ, typB, typC, HX1.out, HE1.out, HV2.out, HV3.out, HE4.out, HV5.out, HX6.out, HE6.out, HE7.out, HX8.out, HE8.out, HE9.out, HX10.out, HE10.out]
        exact ⟨⟨_, rfl, by simp [typedQ, typB, typC, qapp, HX1.out, HE1.out, HV2.out, HV3.out, HE4.out, HV5.out, HX6.out, HE6.out, HE7.out, HX8.out, HE8.out, HE9.out, HX10.out, HE10.out]⟩, by rw [hM]; exact HP10.out, HG10.out⟩
    · skip
      go_wp2_with fail
      all_goals (try (exfalso; (simp at *; omega)))
      have HPo11 : Hid (s1.i < T.length) := Lib.hid HP3.out.ok
      refine (HL.out _ _ HP3.out).mono ?_
      rintro e w11 ⟨⟨x11, rfl, hx⟩, h2, f2⟩
      have hxs11 : x11.size ≤ 10000100 := by rw [qsize hx]; exact Nat.le_trans (leaf_lenA HR.out HPo11.out) (by decide)
      obtain ⟨s11, hs⟩ : ∃ s11, (leafQ T s1).2 = s11 := ⟨_, rfl⟩
      have HX11 := Lib.hid hx; have HE11 := Lib.hid hs; have HP11 : Hid (PAt w11 b q c T D s11) := Lib.hid (hs ▸ h2); have HG11 := Lib.hid (HG3.out.trans f2)
      clear hx h2 f2 hs
      go_wp2_with fail
      all_goals (try (exfalso; (simp at *; omega)))
      refine (HI.out [123] _ _ HP11.out).mono ?_
      rintro e w12 ⟨rfl, h2, f2⟩
      have HP12 : Hid (PAt w12 b q c T D s11) := Lib.hid h2; have HG12 := Lib.hid (HG11.out.trans f2)
      obtain ⟨b12, hb⟩ : ∃ b12, isQ T [123] s11 = b12 := ⟨_, rfl⟩
      rw [hb]
      have HV12 := Lib.hid hb
      clear h2 f2 hb
      cases b12
      · skip
        go_wp2_with fail
        all_goals (try (exfalso; (simp at *; omega)))
        go_ret
        have hM : ((typedQ T ex) s0).2 = s11 := by simp [typedQ, typB, typC, HX1.out, HE1.out, HV2.out, HV3.out, HX11.out, HE11.out, HV12.out]
        exact ⟨⟨_, rfl, by simp [typedQ, typB, typC, qapp, HX1.out, HE1.out, HV2.out, HV3.out, HX11.out, HE11.out, HV12.out]⟩, by rw [hM]; exact HP12.out, HG12.out⟩
      · skip
        go_wp2_with fail
        all_goals (try (exfalso; (simp at *; omega)))
        have HPo13 : Hid (s11.i < T.length) := Lib.hid HP12.out.ok
        refine (HL.out _ _ HP12.out).mono ?_
        rintro e w13 ⟨⟨x13, rfl, hx⟩, h2, f2⟩
        have hxs13 : x13.size ≤ 10000100 := by rw [qsize hx]; exact Nat.le_trans (leaf_lenA HR.out HPo13.out) (by decide)
        obtain ⟨s13, hs⟩ : ∃ s13, (leafQ T s11).2 = s13 := ⟨_, rfl⟩
        have HX13 := Lib.hid hx; have HE13 := Lib.hid hs; have HP13 : Hid (PAt w13 b q c T D s13) := Lib.hid (hs ▸ h2); have HG13 := Lib.hid (HG12.out.trans f2)
        clear hx h2 f2 hs
        obtain ⟨d0, d1, d2, d3, d4, d5, d6⟩ := cells6 HP13.out.box
        obtain ⟨s14, hs⟩ : ∃ s14, setIn true s13 = s14 := ⟨_, rfl⟩
        have HE14 := Lib.hid hs
        have HP14 : Hid (PAt (w13.setCell ⟨b, 3, none⟩ (.bool true)) b q c T D s14) := Lib.hid (hs ▸ HP13.out.setIn true); have HG14 : Hid (Fr2 (Self b) w (w13.setCell ⟨b, 3, none⟩ (.bool true))) := Lib.hid (HG13.out.setCell (mine b) _)
        clear hs d0 d1 d2 d4 d5
        go_wp2_with fail
        all_goals (try (exfalso; (simp at *; omega)))
        refine (HSX.out _ _ HP14.out).mono ?_
        rintro e w15 ⟨⟨x15, rfl, hx⟩, h2, f2⟩
        have hxs15 : x15.size ≤ 10000100 := by rw [qsize hx]; exact Nat.le_trans (len_ok HR.out (HTX.out _)) (by decide)
        obtain ⟨s15, hs⟩ : ∃ s15, ((ex) s14).2 = s15 := ⟨_, rfl⟩
        have HX15 := Lib.hid hx; have HE15 := Lib.hid hs; have HP15 : Hid (PAt w15 b q c T D s15) := Lib.hid (hs ▸ h2); have HG15 := Lib.hid (HG14.out.trans f2)
        clear hx h2 f2 hs
        obtain ⟨d0, d1, d2, d3, d4, d5, d6⟩ := cells6 HP15.out.box
        obtain ⟨s16, hs⟩ : ∃ s16, setIn false s15 = s16 := ⟨_, rfl⟩
        have HE16 := Lib.hid hs
        have HP16 : Hid (PAt (w15.setCell ⟨b, 3, none⟩ (.bool false)) b q c T D s16) := Lib.hid (hs ▸ HP15.out.setIn false); have HG16 : Hid (Fr2 (Self b) w (w15.setCell ⟨b, 3, none⟩ (.bool false))) := Lib.hid (HG15.out.setCell (mine b) _)
        clear hs d0 d1 d2 d4 d5
        go_wp2_with fail
        all_goals (try (exfalso; (simp at *; omega)))
        refine (HMU.out [125] _ _ HP16.out).mono ?_
        rintro e w17 ⟨⟨x17, rfl, hx⟩, h2, f2⟩
        have hxs17 : x17.size ≤ 10000100 := by rw [qsize hx]; exact Nat.le_trans (len_ok HR.out (must_fits T _ _)) (by decide)
        obtain ⟨s17, hs⟩ : ∃ s17, (mustQ T [125] s16).2 = s17 := ⟨_, rfl⟩
        have HX17 := Lib.hid hx; have HE17 := Lib.hid hs; have HP17 : Hid (PAt w17 b q c T D s17) := Lib.hid (hs ▸ h2); have HG17 := Lib.hid (HG16.out.trans f2)
        clear hx h2 f2 hs
        go_wp2_with fail
        all_goals (try (exfalso; (simp at *; omega)))
        go_ret
        have hM : ((typedQ T ex) s0).2 = s17 := by simp [typedQ, typB, typC, HX1.out, HE1.out, HV2.out, HV3.out, HX11.out, HE11.out, HV12.out, HX13.out, HE13.out, HE14.out, HX15.out, HE15.out, HE16.out, HX17.out, HE17.out]
        exact ⟨⟨_, rfl, by simp [typedQ, typB, typC, qapp, HX1.out, HE1.out, HV2.out, HV3.out, HX11.out, HE11.out, HV12.out, HX13.out, HE13.out, HE14.out, HX15.out, HE15.out, HE16.out, HX17.out, HE17.out]⟩, by rw [hM]; exact HP17.out, HG17.out⟩
  · skip
    go_wp2_with fail
    all_goals (try (exfalso; (simp at *; omega)))
    have HPo18 : Hid (s1.i < T.length) := Lib.hid HP2.out.ok
    refine (HL.out _ _ HP2.out).mono ?_
    rintro e w18 ⟨⟨x18, rfl, hx⟩, h2, f2⟩
    have hxs18 : x18.size ≤ 10000100 := by rw [qsize hx]; exact Nat.le_trans (leaf_lenA HR.out HPo18.out) (by decide)
    obtain ⟨s18, hs⟩ : ∃ s18, (leafQ T s1).2 = s18 := ⟨_, rfl⟩
    have HX18 := Lib.hid hx; have HE18 := Lib.hid hs; have HP18 : Hid (PAt w18 b q c T D s18) := Lib.hid (hs ▸ h2); have HG18 := Lib.hid (HG2.out.trans f2)
    clear hx h2 f2 hs
    go_wp2_with fail
    all_goals (try (exfalso; (simp at *; omega)))
    refine (HI.out [123] _ _ HP18.out).mono ?_
    rintro e w19 ⟨rfl, h2, f2⟩
    have HP19 : Hid (PAt w19 b q c T D s18) := Lib.hid h2; have HG19 := Lib.hid (HG18.out.trans f2)
    obtain ⟨b19, hb⟩ : ∃ b19, isQ T [123] s18 = b19 := ⟨_, rfl⟩
    rw [hb]
    have HV19 := Lib.hid hb
    clear h2 f2 hb
    cases b19
    · skip
      go_wp2_with fail
      all_goals (try (exfalso; (simp at *; omega)))
      go_ret
      have hM : ((typedQ T ex) s0).2 = s18 := by simp [typedQ, typB, typC, HX1.out, HE1.out, HV2.out, HX18.out, HE18.out, HV19.out]
      exact ⟨⟨_, rfl, by simp [typedQ, typB, typC, qapp, HX1.out, HE1.out, HV2.out, HX18.out, HE18.out, HV19.out]⟩, by rw [hM]; exact HP19.out, HG19.out⟩
    · skip
      go_wp2_with fail
      all_goals (try (exfalso; (simp at *; omega)))
      have HPo20 : Hid (s18.i < T.length) := Lib.hid HP19.out.ok
      refine (HL.out _ _ HP19.out).mono ?_
      rintro e w20 ⟨⟨x20, rfl, hx⟩, h2, f2⟩
      have hxs20 : x20.size ≤ 10000100 := by rw [qsize hx]; exact Nat.le_trans (leaf_lenA HR.out HPo20.out) (by decide)
      obtain ⟨s20, hs⟩ : ∃ s20, (leafQ T s18).2 = s20 := ⟨_, rfl⟩
      have HX20 := Lib.hid hx; have HE20 := Lib.hid hs; have HP20 : Hid (PAt w20 b q c T D s20) := Lib.hid (hs ▸ h2); have HG20 := Lib.hid (HG19.out.trans f2)
      clear hx h2 f2 hs
      obtain ⟨d0, d1, d2, d3, d4, d5, d6⟩ := cells6 HP20.out.box
      obtain ⟨s21, hs⟩ : ∃ s21, setIn true s20 = s21 := ⟨_, rfl⟩
      have HE21 := Lib.hid hs
      have HP21 : Hid (PAt (w20.setCell ⟨b, 3, none⟩ (.bool true)) b q c T D s21) := Lib.hid (hs ▸ HP20.out.setIn true); have HG21 : Hid (Fr2 (Self b) w (w20.setCell ⟨b, 3, none⟩ (.bool true))) := Lib.hid (HG20.out.setCell (mine b) _)
      clear hs d0 d1 d2 d4 d5
      go_wp2_with fail
      all_goals (try (exfalso; (simp at *; omega)))
      refine (HSX.out _ _ HP21.out).mono ?_
      rintro e w22 ⟨⟨x22, rfl, hx⟩, h2, f2⟩
      have hxs22 : x22.size ≤ 10000100 := by rw [qsize hx]; exact Nat.le_trans (len_ok HR.out (HTX.out _)) (by decide)
      obtain ⟨s22, hs⟩ : ∃ s22, ((ex) s21).2 = s22 := ⟨_, rfl⟩
      have HX22 := Lib.hid hx; have HE22 := Lib.hid hs; have HP22 : Hid (PAt w22 b q c T D s22) := Lib.hid (hs ▸ h2); have HG22 := Lib.hid (HG21.out.trans f2)
      clear hx h2 f2 hs
      obtain ⟨d0, d1, d2, d3, d4, d5, d6⟩ := cells6 HP22.out.box
      obtain ⟨s23, hs⟩ : ∃ s23, setIn false s22 = s23 := ⟨_, rfl⟩
      have HE23 := Lib.hid hs
      have HP23 : Hid (PAt (w22.setCell ⟨b, 3, none⟩ (.bool false)) b q c T D s23) := Lib.hid (hs ▸ HP22.out.setIn false); have HG23 : Hid (Fr2 (Self b) w (w22.setCell ⟨b, 3, none⟩ (.bool false))) := Lib.hid (HG22.out.setCell (mine b) _)
      clear hs d0 d1 d2 d4 d5
      go_wp2_with fail
      all_goals (try (exfalso; (simp at *; omega)))
      refine (HMU.out [125] _ _ HP23.out).mono ?_
      rintro e w24 ⟨⟨x24, rfl, hx⟩, h2, f2⟩
      have hxs24 : x24.size ≤ 10000100 := by rw [qsize hx]; exact Nat.le_trans (len_ok HR.out (must_fits T _ _)) (by decide)
      obtain ⟨s24, hs⟩ : ∃ s24, (mustQ T [125] s23).2 = s24 := ⟨_, rfl⟩
      have HX24 := Lib.hid hx; have HE24 := Lib.hid hs; have HP24 : Hid (PAt w24 b q c T D s24) := Lib.hid (hs ▸ h2); have HG24 := Lib.hid (HG23.out.trans f2)
      clear hx h2 f2 hs
      go_wp2_with fail
      all_goals (try (exfalso; (simp at *; omega)))
      go_ret
      have hM : ((typedQ T ex) s0).2 = s24 := by simp [typedQ, typB, typC, HX1.out, HE1.out, HV2.out, HX18.out, HE18.out, HV19.out, HX20.out, HE20.out, HE21.out, HX22.out, HE22.out, HE23.out, HX24.out, HE24.out]
      exact ⟨⟨_, rfl, by simp [typedQ, typB, typC, qapp, HX1.out, HE1.out, HV2.out, HX18.out, HE18.out, HV19.out, HX20.out, HE20.out, HE21.out, HX22.out, HE22.out, HE23.out, HX24.out, HE24.out]⟩, by rw [hM]; exact HP24.out, HG24.out⟩
end
end Go.Proofs.YthclkbaankjbiaaGreatDoor
