/- A slice of structs that came in, opened: each element's cells, and that they read. -/
import Derived.Deep.Slices
import Derived.ChangeArms
import Derived.OpenShut
import Derived.Test.YtmlcpihedmmlfaaGreatDoorM5
set_option linter.unusedVariables false
set_option linter.unusedSimpArgs false
namespace Go.Proofs.YtmlcpihedmmlfaaGreatDoor
open Go.RowKit

section
open Go.ChangeShapes Go.WideShapes Go.Deep
variable {H : Type} {enc : TypeId × Value → H} {P : Program} {w : World} {base : Nat} {spare : Nat → Bool} {held : Bool}

theorem open_rows {t e : TypeId} {s fuel : Nat} {v : Option Addr} {n c : Nat} {x : DataW H × List MemPlace} (ht : P.underlying t = some (.slice e)) (ce : P.cellsOf e = s) (hs : 0 < s)
    (h : DataW.trod enc P w base spare held fuel t [.slice v n c] = some x) : n ≤ c ∧ c ≤ maxLen ∧ ∃ q : Nat → List Value, (∀ j, j < n → (q j).length = s ∧ ∃ f' x', DataW.trod enc P w base spare held f' e (q j) = some x') ∧ GAt s w v ((List.range n).map q) := by
  rcases open_slice ht h with ⟨h0, -⟩ | ⟨a, len, cap, m, nn, Dd, Pl, hcs, hb, hl, hm, hmm, -, hx⟩
  · simp at h0
    obtain ⟨rfl, rfl, rfl⟩ := h0
    exact ⟨Nat.le_refl _, by omega, fun _ => [], fun j hj => by omega, .inl rfl⟩
  · simp at hcs
    obtain ⟨rfl, rfl, rfl⟩ := hcs
    have hlm : n ≤ m := by rw [hmm]; split <;> omega
    have each : ∀ i, i < n → ∃ q : List Value, q.length = s ∧ (∃ f' x', DataW.trod enc P w base spare held f' e q = some x') ∧ ∀ j, j < s → w.cell? (a.add (i * s + j)) = q[j]? := by
      intro i hi
      obtain ⟨cs', h1, h2⟩ := hx i (by omega)
      rw [ce] at h1
      obtain ⟨_, hlen, hcell⟩ := World.cells?_some h1
      refine ⟨cs', hlen, ⟨_, _, h2⟩, fun j hj => ?_⟩
      have := hcell j (by omega)
      rw [add_add] at this
      exact this
    refine ⟨hl, hm, ?_⟩
    obtain ⟨q, hq⟩ := choose_lt each
    refine ⟨q, fun j hj => ⟨(hq j hj).1, (hq j hj).2.1⟩, ?_⟩
    by_cases h0 : n = 0
    · subst h0; exact .inl rfl
    · have hs1 := (hq 0 (by omega)).2.2 0 hs
      have hq0 : ∃ u, (q 0)[0]? = some u := ⟨(q 0)[0]'(by rw [(hq 0 (by omega)).1]; exact hs), List.getElem?_eq_getElem _⟩
      obtain ⟨u, hu⟩ := hq0
      rw [hu] at hs1
      have hsp := World.cell?_spot hs1
      have hlt := World.block_lt_of_cell? w _ hs1
      obtain ⟨g, o, sp⟩ := a
      have hsp : sp = none := by simpa [Addr.add] using hsp
      subst hsp
      refine .inr ⟨g, o, rfl, by simpa [Addr.add] using hlt, fun j l hj i u hi => ?_⟩
      rw [List.getElem?_map] at hj
      obtain ⟨j', hj', rfl⟩ := Option.map_eq_some_iff.1 hj
      have hjn : j < n := by have := (List.getElem?_eq_some_iff.1 hj').1; simpa using this
      have : j' = j := by rw [List.getElem?_range hjn] at hj'; exact (Option.some.inj hj').symm
      subst this
      have his : i < s := by have := (List.getElem?_eq_some_iff.1 hi).1; rw [(hq j' hjn).1] at this; exact this
      have := (hq j' hjn).2.2 i his
      rw [Addr.add_lit, hi, ← Nat.add_assoc] at this
      exact this
end
end Go.Proofs.YtmlcpihedmmlfaaGreatDoor
namespace Go.Proofs.YtmlcpihedmmlfaaGreatDoor
open Go.RowKit

instance : Inhabited TokI := ⟨⟨0, [], [], 0⟩⟩
instance : Inhabited Nd := ⟨⟨0, 0, []⟩⟩

section
open Go.ChangeShapes Go.WideShapes Go.Deep
variable {H : Type} {enc : TypeId × Value → H} {P : Program} {w : World} {base : Nat} {spare : Nat → Bool} {held : Bool}

theorem open_ints {t e : TypeId} {fuel : Nat} {v : Value} {x : DataW H × List MemPlace} (ht : P.underlying t = some (.slice e)) (he : P.underlying e = some (.int .i64)) (ce : P.cellsOf e = 1)
    (h : DataW.trod enc P w base spare held fuel t [v] = some x) : ∃ p l c, v = .slice p (List.length l) c ∧ VAt w p (intsV l) := by
  obtain ⟨p, n, c, rfl⟩ : ∃ p n c, v = .slice p n c := by
    rcases open_slice ht h with ⟨h0, -⟩ | ⟨a, len, cap, m, nn, Dd, Pl, hcs, -⟩
    · simp at h0; exact ⟨_, _, _, h0⟩
    · simp at hcs; exact ⟨_, _, _, hcs⟩
  obtain ⟨-, -, q, hq, hg⟩ := open_rows ht ce (by omega) h
  have each : ∀ j, j < n → ∃ y : Int, q j = [.int .i64 y] := fun j hj => by
    obtain ⟨-, f', x', hx⟩ := hq j hj
    obtain ⟨y, e0, -⟩ := DataW.trod_int he hx
    exact ⟨y, e0⟩
  obtain ⟨y, hy⟩ := choose_lt each
  refine ⟨p, (List.range n).map y, c, by simp, v_of_g ?_⟩
  have : one (intsV ((List.range n).map y)) = (List.range n).map q := by
    unfold one intsV
    rw [List.map_map, List.map_map]
    exact List.map_congr_left fun j hj => (hy j (by simpa using hj)).symm
  rw [this]; exact hg

theorem open_tok {e : TypeId} {f0 f1 f2 f3 : Field} {fuel : Nat} {q : List Value} {x : DataW H × List MemPlace} (he : P.underlying e = some (.struct #[f0, f1, f2, f3])) (hq : q.length = 4)
    (o0 : f0.offset = 0) (o1 : f1.offset = 1) (o2 : f2.offset = 2) (o3 : f3.offset = 3) (c0 : P.cellsOf f0.type = 1) (c1 : P.cellsOf f1.type = 1) (c2 : P.cellsOf f2.type = 1) (c3 : P.cellsOf f3.type = 1)
    (t0 : P.underlying f0.type = some (.int .i64)) (t1 : P.underlying f1.type = some .string) (t2 : P.underlying f2.type = some .string) (t3 : P.underlying f3.type = some (.int .i64))
    (h : DataW.trod enc P w base spare held fuel e q = some x) : ∃ t : TokI, q = tokVI t := by
  obtain ⟨xs, k, hk, hxy, _, hxl, hf⟩ := DataW.trod_struct he h
  match xs, hxl, q, hq with
  | [y0, y1, y2, y3], _, [v0, v1, v2, v3], _ =>
    have g0 := hf 0 f0 rfl
    have g1 := hf 1 f1 rfl
    have g2 := hf 2 f2 rfl
    have g3 := hf 3 f3 rfl
    simp [o0, o1, o2, o3, c0, c1, c2, c3] at g0 g1 g2 g3
    obtain ⟨n0, e0, -⟩ := DataW.trod_int t0 g0
    obtain ⟨s1, e1, -⟩ := DataW.trod_string t1 g1
    obtain ⟨s2, e2, -⟩ := DataW.trod_string t2 g2
    obtain ⟨n3, e3, -⟩ := DataW.trod_int t3 g3
    simp at e0 e1 e2 e3
    subst e0; subst e1; subst e2; subst e3
    exact ⟨⟨n0, s1.data.toList, s2.data.toList, n3⟩, rfl⟩

theorem open_nodeT {e ti : TypeId} {f0 f1 f2 : Field} {fuel : Nat} {q : List Value} {x : DataW H × List MemPlace} (he : P.underlying e = some (.struct #[f0, f1, f2])) (hq : q.length = 3)
    (o0 : f0.offset = 0) (o1 : f1.offset = 1) (o2 : f2.offset = 2) (c0 : P.cellsOf f0.type = 1) (c1 : P.cellsOf f1.type = 1) (c2 : P.cellsOf f2.type = 1)
    (t0 : P.underlying f0.type = some (.int .i64)) (t1 : P.underlying f1.type = some (.int .i64)) (t2 : P.underlying f2.type = some (.slice ti)) (ui : P.underlying ti = some (.int .i64)) (ci : P.cellsOf ti = 1)
    (h : DataW.trod enc P w base spare held fuel e q = some x) : ∃ (y : Nd × (Option Addr × Nat)), q = [.int .i64 y.1.kind, .int .i64 y.1.tok, .slice y.2.1 y.1.kids.length y.2.2] ∧ VAt w y.2.1 (intsV y.1.kids) := by
  obtain ⟨xs, k, hk, hxy, _, hxl, hf⟩ := DataW.trod_struct he h
  match xs, hxl, q, hq with
  | [y0, y1, y2], _, [v0, v1, v2], _ =>
    have g0 := hf 0 f0 rfl
    have g1 := hf 1 f1 rfl
    have g2 := hf 2 f2 rfl
    simp [o0, o1, o2, c0, c1, c2] at g0 g1 g2
    obtain ⟨n0, e0, -⟩ := DataW.trod_int t0 g0
    obtain ⟨n1, e1, -⟩ := DataW.trod_int t1 g1
    obtain ⟨p, l, c, e2, hv⟩ := open_ints t2 ui ci g2
    simp at e0 e1
    subst e0; subst e1; subst e2
    exact ⟨(⟨n0, n1, l⟩, (p, c)), rfl, hv⟩

theorem open_toks {t e : TypeId} {f0 f1 f2 f3 : Field} {fuel : Nat} {v : Option Addr} {n c : Nat} {x : DataW H × List MemPlace} (ht : P.underlying t = some (.slice e)) (he : P.underlying e = some (.struct #[f0, f1, f2, f3])) (ce : P.cellsOf e = 4)
    (o0 : f0.offset = 0) (o1 : f1.offset = 1) (o2 : f2.offset = 2) (o3 : f3.offset = 3) (c0 : P.cellsOf f0.type = 1) (c1 : P.cellsOf f1.type = 1) (c2 : P.cellsOf f2.type = 1) (c3 : P.cellsOf f3.type = 1)
    (t0 : P.underlying f0.type = some (.int .i64)) (t1 : P.underlying f1.type = some .string) (t2 : P.underlying f2.type = some .string) (t3 : P.underlying f3.type = some (.int .i64))
    (h : DataW.trod enc P w base spare held fuel t [.slice v n c] = some x) : n ≤ c ∧ c ≤ maxLen ∧ ∃ T : List TokI, T.length = n ∧ ToksAt w v T := by
  obtain ⟨h1, h2, q, hq, hg⟩ := open_rows ht ce (by omega) h
  have each : ∀ j, j < n → ∃ t : TokI, q j = tokVI t := fun j hj => by
    obtain ⟨hl, f', x', hx⟩ := hq j hj
    exact open_tok he hl o0 o1 o2 o3 c0 c1 c2 c3 t0 t1 t2 t3 hx
  obtain ⟨T, hT⟩ := choose_lt each
  refine ⟨h1, h2, (List.range n).map T, by simp, ?_⟩
  have : toksV ((List.range n).map T) = (List.range n).map q := by
    unfold toksV
    rw [List.map_map]
    exact List.map_congr_left fun j hj => (hT j (by simpa using hj)).symm
  unfold ToksAt
  rw [this]; exact hg

theorem open_nodes {t e ti : TypeId} {f0 f1 f2 : Field} {fuel : Nat} {v : Option Addr} {n c : Nat} {x : DataW H × List MemPlace} (ht : P.underlying t = some (.slice e)) (he : P.underlying e = some (.struct #[f0, f1, f2])) (ce : P.cellsOf e = 3)
    (o0 : f0.offset = 0) (o1 : f1.offset = 1) (o2 : f2.offset = 2) (c0 : P.cellsOf f0.type = 1) (c1 : P.cellsOf f1.type = 1) (c2 : P.cellsOf f2.type = 1)
    (t0 : P.underlying f0.type = some (.int .i64)) (t1 : P.underlying f1.type = some (.int .i64)) (t2 : P.underlying f2.type = some (.slice ti)) (ui : P.underlying ti = some (.int .i64)) (ci : P.cellsOf ti = 1)
    (h : DataW.trod enc P w base spare held fuel t [.slice v n c] = some x) : n ≤ c ∧ c ≤ maxLen ∧ ∃ (N : List Nd) (K : Nat → Option Addr × Nat), N.length = n ∧ NodesAt w v N K := by
  obtain ⟨h1, h2, q, hq, hg⟩ := open_rows ht ce (by omega) h
  have each : ∀ j, j < n → ∃ (y : Nd × (Option Addr × Nat)), q j = [.int .i64 y.1.kind, .int .i64 y.1.tok, .slice y.2.1 y.1.kids.length y.2.2] ∧ VAt w y.2.1 (intsV y.1.kids) := fun j hj => by
    obtain ⟨hl, f', x', hx⟩ := hq j hj
    exact open_nodeT he hl o0 o1 o2 c0 c1 c2 t0 t1 t2 ui ci hx
  obtain ⟨Y, hY⟩ := choose_lt each
  refine ⟨h1, h2, (List.range n).map fun j => (Y j).1, fun j => (Y j).2, by simp, ?_, fun i x hx => ?_⟩
  · have : ndsV (fun j => (Y j).2) ((List.range n).map fun j => (Y j).1) = (List.range n).map q := by
      unfold ndsV
      refine List.ext_getElem? fun i => ?_
      rw [List.getElem?_mapIdx, List.getElem?_map, List.getElem?_map]
      by_cases hi : i < n
      · rw [List.getElem?_range hi]
        simp only [Option.map_some]
        rw [(hY i hi).1]; rfl
      · rw [List.getElem?_eq_none (by simp; omega)]; rfl
    rw [this]; exact hg
  · rw [List.getElem?_map] at hx
    obtain ⟨j, hj, rfl⟩ := Option.map_eq_some_iff.1 hx
    have hin : i < n := by have := (List.getElem?_eq_some_iff.1 hj).1; simpa using this
    rw [List.getElem?_range hin] at hj
    have := Option.some.inj hj
    subst this
    exact (hY i hin).2
end
end Go.Proofs.YtmlcpihedmmlfaaGreatDoor
