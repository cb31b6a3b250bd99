/- Trees in memory: tokens and nodes as slices read them. -/
import Derived.Test.YtdfegmdmappefaaDoorTMath
import Derived.Test.YtdfegmdmappefaaDoorGRow
import Derived.Test.YtdfegmdmappefaaDoorEWhole
import Derived.Deep.RegionWith
import Derived.Deep.RegionLaw
namespace Go.Proofs.YtdfegmdmappefaaDoor
open Go.RowKit

def tokVI (t : TokI) : List Value := [.int .i64 t.kind, strV t.lead, strV t.text, .int .i64 t.pos]
def intsV (l : List Int) : List Value := l.map (Value.int .i64)
def ndV (K : Nat → Option Addr × Nat) (i : Nat) (x : Nd) : List Value := [.int .i64 x.kind, .int .i64 x.tok, .slice (K i).1 x.kids.length (K i).2]
def ndsV (K : Nat → Option Addr × Nat) (N : List Nd) : List (List Value) := N.mapIdx (ndV K)
def toksV (T : List TokI) : List (List Value) := T.map tokVI

def KidsAt (w : World) (N : List Nd) (K : Nat → Option Addr × Nat) : Prop := ∀ (i : Nat) (x : Nd), N[i]? = some x → VAt w (K i).1 (intsV x.kids)
def NodesAt (w : World) (p : Option Addr) (N : List Nd) (K : Nat → Option Addr × Nat) : Prop := GAt 3 w p (ndsV K N) ∧ KidsAt w N K
def ToksAt (w : World) (p : Option Addr) (T : List TokI) : Prop := GAt 4 w p (toksV T)

theorem NodesAt.kept {w w' : World} {p : Option Addr} {N : List Nd} {K : Nat → Option Addr × Nat} (h : NodesAt w p N K) (hg : w.grownBy w' none) : NodesAt w' p N K := ⟨h.1.kept hg, fun i x hx => (h.2 i x hx).kept hg⟩
theorem ToksAt.kept {w w' : World} {p : Option Addr} {T : List TokI} (h : ToksAt w p T) (hg : w.grownBy w' none) : ToksAt w' p T := GAt.kept h hg

theorem intsV_len (l : List Int) : (intsV l).length = l.length := List.length_map _
theorem intsV_one (l : List Int) : ∀ u ∈ intsV l, u.oneCell' = true := fun u hu => by obtain ⟨x, -, rfl⟩ := List.mem_map.1 hu; rfl
theorem intsV_append (a b : List Int) : intsV (a ++ b) = intsV a ++ intsV b := List.map_append
theorem intsV_get {l : List Int} {j : Nat} {x : Int} (h : l[j]? = some x) : (intsV l)[j]? = some (.int .i64 x) := by unfold intsV; rw [List.getElem?_map, h]; rfl

/-- A node's cells. -/
theorem node_at {w : World} {p : Option Addr} {N : List Nd} {K : Nat → Option Addr × Nat} (h : NodesAt w p N K) {n : Nat} {x : Nd} (hx : N[n]? = some x) : ∃ g off, p = some ⟨g, off, none⟩ ∧ g < w.heap.size ∧
    w.cell? ⟨g, off + n * 3, none⟩ = some (.int .i64 x.kind) ∧ w.cell? ⟨g, off + n * 3 + 1, none⟩ = some (.int .i64 x.tok) ∧ w.cell? ⟨g, off + n * 3 + 2, none⟩ = some (.slice (K n).1 x.kids.length (K n).2) := by
  have h1 : (ndsV K N)[n]? = some (ndV K n x) := by unfold ndsV; rw [List.getElem?_mapIdx, hx]; rfl
  obtain ⟨g, off, rfl, hl, hc⟩ := h.1.resolve_left (fun h0 => by rw [h0] at h1; simp at h1)
  exact ⟨g, off, rfl, hl, hc n _ h1 0 _ rfl, hc n _ h1 1 _ rfl, hc n _ h1 2 _ rfl⟩

theorem tok_at {w : World} {p : Option Addr} {T : List TokI} (h : ToksAt w p T) {n : Nat} {t : TokI} (hx : T[n]? = some t) : ∃ g off, p = some ⟨g, off, none⟩ ∧ g < w.heap.size ∧
    w.cell? ⟨g, off + n * 4, none⟩ = some (.int .i64 t.kind) ∧ w.cell? ⟨g, off + n * 4 + 1, none⟩ = some (strV t.lead) ∧ w.cell? ⟨g, off + n * 4 + 2, none⟩ = some (strV t.text) ∧ w.cell? ⟨g, off + n * 4 + 3, none⟩ = some (.int .i64 t.pos) := by
  have h1 : (toksV T)[n]? = some (tokVI t) := by unfold toksV; rw [List.getElem?_map, hx]; rfl
  obtain ⟨g, off, rfl, hl, hc⟩ := Or.resolve_left h (fun h0 => by rw [h0] at h1; simp at h1)
  exact ⟨g, off, rfl, hl, hc n _ h1 0 _ rfl, hc n _ h1 1 _ rfl, hc n _ h1 2 _ rfl, hc n _ h1 3 _ rfl⟩

/-- A kid's cell. -/
theorem kid_at {w : World} {p : Option Addr} {l : List Int} (h : VAt w p (intsV l)) {j : Nat} {x : Int} (hx : l[j]? = some x) : ∃ g off, p = some ⟨g, off, none⟩ ∧ g < w.heap.size ∧ w.cell? ⟨g, off + j, none⟩ = some (.int .i64 x) := by
  have h1 := intsV_get hx
  obtain ⟨g, off, rfl, hl, hc⟩ := h.resolve_left (fun h0 => by rw [h0] at h1; simp at h1)
  exact ⟨g, off, rfl, hl, hc j _ h1⟩

theorem infoI : (Tryd.prog.info? 3).map (fun i => (i.zero, i.size, i.bytes)) = some (some (.int .i64 0), 1, 8) := by kernel_rfl

def sliceOf (l : List Int) (w : World) (e : Ending) (w' : World) : Prop := w.grownBy w' none ∧ ∃ p c, e = .returned (.slice p l.length c) ∧ VAt w' p (intsV l)
end Go.Proofs.YtdfegmdmappefaaDoor
