/- What is told is its own: lists that may be written; what a law holds beside them. -/
import Derived.Test.YtljpgmhgnfnbkaaBMap9
import Derived.Test.YtljpgmhgnfnbkaaBWin
namespace Go.Proofs.Ytljpgmhgnfnbkaa
open Go.RowKit Mx

/-! ### What is told is its own -/

def OwnPost (S : List Int) (w : World) (e : Ending) (w' : World) : Prop := ∃ p c, e = .returned (.slice p S.length c) ∧ OwnL w' w.heap.size (.slice p S.length c) S ∧ w.grownBy w' none

theorem own_slice {w : World} {base : Nat} {v : Value} {S : List Int} (h : OwnL w base v S) : ∃ p c, v = .slice p S.length c := by
  rcases h.2 with ⟨rfl, h0⟩ | ⟨g, cap, cur, rfl, _⟩
  · rw [h0]; exact ⟨_, _, rfl⟩
  · exact ⟨_, _, rfl⟩

theorem CloneO_c (p : Option Addr) (c : Nat) (S : List Int) (w : World) (hl : S.length ≤ 1000000) (h : LAt w p S) : Calls Try.prog 49 #[.slice p S.length c] w (OwnPost S w) := by
  have hfin : ∀ e w', (∃ v', e = Ending.returned v' ∧ w'.ownsRow w.heap.size 3 1 v' S.length (S.map (Value.int .i64)) ∧ v' ≠ .slice none 0 0 ∧ Below w.heap.size w w') → OwnPost S w e w' := by
    rintro e w' ⟨v', rfl, h1, -, h2⟩
    obtain ⟨p', c', rfl⟩ := own_slice h1
    exact ⟨_, _, rfl, h1, below_gb h2⟩
  by_cases h0 : S = []
  · subst h0
    cases p with
    | none => exact (Try.slices_Clone_int_nil 0 c w).mono fun e w' ⟨h1, h2⟩ => ⟨none, 0, h1, OwnL.nil _ _, by subst h2; exact gb_refl _ _⟩
    | some a => exact (Try.slices_Clone_int_zero a c w).mono fun e w' h => hfin e w' (by simpa using h)
  · obtain ⟨g, off, rfl, hg, hc⟩ := h.resolve_left h0
    exact (Try.slices_Clone_int g off S.length c S w (Nat.le_refl _) (by omega) hc).mono fun e w' h => hfin e w' (by simpa using h)

theorem OwnL.le {w : World} {base base' : Nat} {v : Value} {S : List Int} (h : OwnL w base v S) (hb : base' ≤ base) : OwnL w base' v S :=
  ⟨h.1, h.2.imp id fun ⟨g, cap, cur, e, hh, r⟩ => ⟨g, cap, cur, e, Nat.le_trans hb hh, r⟩⟩

set_option maxRecDepth 100000 in
theorem ItemsO_c (p : Option Addr) (c : Nat) (S : List Int) (w : World) (hl : S.length ≤ 1000000) (h : LAt w p S) : Calls Try.prog 13 #[.agg #[.slice p S.length c]] w (OwnPost S w) := by
  obtain ⟨n, hn⟩ : ∃ n, S.length = n := ⟨_, rfl⟩
  have hga := World.grownBy_alloc w (.cells #[.slice p n c] 25) none
  have HC := Lib.hid (CloneO_c p c S _ hl (h.kept hga))
  have HGA := Lib.hid hga
  have hcl : (w.alloc (.cells #[.slice p n c] 25)).cell? ⟨w.heap.size, 0, none⟩ = some (.slice p n c) := by rw [cell_of_row _ w.heap.size 0 _ _ (0, 0) (heap_alloc_new w _)]; rfl
  have HN := Lib.hid hn
  unfold OwnPost at HC
  rw [hn] at HC ⊢
  clear h hga hn hl
  go_enter Try.func13, Try.ntmps13
  go_wp2_with fail
  refine HC.out.mono ?_
  rintro e w2 ⟨p2, c2, rfl, h1, h2⟩
  have H1 := Lib.hid h1; have H2 := Lib.hid h2
  clear h1 h2
  go_wp2_with fail
  go_ret
  unfold OwnPost
  rw [HN.out]
  exact ⟨_, _, rfl, H1.out.le (by simp), gb_trans HGA.out H2.out⟩

def AllPost (zs : List Int) (n : Nat) (w : World) (e : Ending) (w' : World) : Prop := e = .returned (.slice (some ⟨w.heap.size, 0, none⟩) n n) ∧ (∃ f, BlkZ w' w.heap.size n f ∧ ∀ j, j < n → f j = zs.getD j 0) ∧ w.grownBy w' none

set_option maxRecDepth 100000 in
set_option maxHeartbeats 2000000 in
theorem AllO_c {w : World} {q rg R first : Nat} {pr : Option Addr} {f : Nat → Int} {zs : List Int} (h : RowAt w q rg R first pr f zs) : Calls Try.prog 40 #[.pointer (some ⟨q, 0, none⟩)] w (AllPost zs zs.length w) := by
  obtain ⟨x0, x1, x2, x3⟩ := cells3' h.box
  have hbig := h.big
  have hcnt := h.cnt
  have hq := (Array.getElem?_eq_some_iff.1 h.box).1
  have hr : 0 < R → rg < w.heap.size := fun h0 => (h.ring.resolve_left (by omega)).2.2.lt
  obtain ⟨n, hn⟩ : ∃ n, zs.length = n := ⟨_, rfl⟩
  have hga := World.grownBy_alloc w (.cells (madeCells #[.int .i64 0] n) 3) none
  have HC := Lib.hid (copyTo_c w.heap.size n (by omega) (by omega) (h.kept hga) (makeI_blk w n) (by omega) (fun h0 => by have := hr h0; omega))
  have hn100 : n ≤ 100000 := by omega
  have hmk := fun w => makeI_run n (by omega) w
  rw [hn] at x2 ⊢
  have HN := Lib.hid hn; have HGA := Lib.hid hga
  clear h hga hn hr x3
  go_enter Try.func40, Try.ntmps40
  go_wp2_with fail
  refine HC.out.mono ?_
  rintro e w2 ⟨rfl, ⟨g, hb, hg⟩, hg2⟩
  have HF := Lib.hid (And.intro hb hg); have HG := Lib.hid (gb_new (gb_below HGA.out) (Nat.le_refl _) hg2)
  clear hb hg hg2
  go_wp2_with fail
  go_ret
  exact ⟨rfl, ⟨g, HF.out.1, fun j hj => HF.out.2 j (by rw [HN.out]; exact hj)⟩, below_gb HG.out⟩

/-! ### Lists that may be written -/

def RowI (w : World) (g n : Nat) : Prop := ∃ cur T, w.heap[g]? = some (.cells cur T (0, 0)) ∧ ∀ j, j < n → ∃ x, cur[j]? = some (.int .i64 x)

theorem RowI.set {w : World} {g n : Nat} (h : RowI w g n) (g' j : Nat) (y : Int) : RowI (w.setCell ⟨g', j, none⟩ (.int .i64 y)) g n := by
  obtain ⟨cur, T, hg, hc⟩ := h
  by_cases e : g = g'
  · subst e
    refine ⟨cur.setIfInBounds j (.int .i64 y), T, ?_, fun i hi => ?_⟩
    · simp only [World.setCell, Array.getElem?_modify, hg, if_true, Option.map_some]; rfl
    · obtain ⟨x, hx⟩ := hc i hi
      rw [Array.getElem?_setIfInBounds]
      by_cases e : j = i
      · subst e
        have := (Array.getElem?_eq_some_iff.1 hx).1
        exact ⟨y, by simp [this]⟩
      · rw [if_neg e]; exact ⟨x, hx⟩
  · exact ⟨cur, T, by rw [Below.heap_setCell _ _ _ _ (by simpa using e)]; exact hg, hc⟩
theorem RowI.kept {w w' : World} {g n : Nat} (h : RowI w g n) (hg : w.grownBy w' none) : RowI w' g n := by
  obtain ⟨cur, T, hh, r⟩ := h; exact ⟨cur, T, bx hg hh, r⟩
theorem RowI.cell {w : World} {g n j : Nat} (h : RowI w g n) (hj : j < n) : (∃ x, w.cell? ⟨g, j, none⟩ = some (.int .i64 x)) ∧ w.frozen? ⟨g, j, none⟩ = false := by
  obtain ⟨cur, T, hg, hc⟩ := h
  obtain ⟨x, hx⟩ := hc j hj
  exact ⟨⟨x, by rw [cell_of_row w g j cur T (0, 0) hg]; exact hx⟩, by simp [World.frozen?, hg]⟩

/-- A slice of ints that may be written: its block lies from B on, below U. -/
def WrI (w : World) (B U : Nat) (v : Value) (n : Nat) : Prop := ∃ p c, v = .slice p n c ∧ (n = 0 ∨ ∃ g, p = some ⟨g, 0, none⟩ ∧ B ≤ g ∧ g < U ∧ RowI w g n)

theorem WrI.set {w : World} {B U n : Nat} {v : Value} (h : WrI w B U v n) (g' j : Nat) (y : Int) : WrI (w.setCell ⟨g', j, none⟩ (.int .i64 y)) B U v n := by
  obtain ⟨p, c, e, h⟩ := h
  exact ⟨p, c, e, h.imp id fun ⟨g, a, b, d, r⟩ => ⟨g, a, b, d, r.set g' j y⟩⟩
theorem WrI.kept {w w' : World} {B U n : Nat} {v : Value} (h : WrI w B U v n) (hg : w.grownBy w' none) : WrI w' B U v n := by
  obtain ⟨p, c, e, h⟩ := h
  exact ⟨p, c, e, h.imp id fun ⟨g, a, b, d, r⟩ => ⟨g, a, b, d, r.kept hg⟩⟩
theorem WrI.up {w : World} {B U U' n : Nat} {v : Value} (h : WrI w B U v n) (hU : U ≤ U') : WrI w B U' v n := by
  obtain ⟨p, c, e, h⟩ := h
  exact ⟨p, c, e, h.imp id fun ⟨g, a, b, d, r⟩ => ⟨g, a, b, Nat.lt_of_lt_of_le d hU, r⟩⟩
theorem WrI.own {w : World} {B : Nat} {v : Value} {S : List Int} (h : OwnL w B v S) : WrI w B w.heap.size v S.length := by
  have h' : w.ownsRow B 3 1 v S.length (S.map (Value.int .i64)) := h
  rcases h'.2 with ⟨rfl, h0⟩ | ⟨g, cap, cur, rfl, hb, hg, hnc, hcm, h1, h2⟩
  · exact ⟨none, 0, by rw [h0], .inl h0⟩
  · refine ⟨_, cap, rfl, .inr ⟨g, rfl, hb, (Array.getElem?_eq_some_iff.1 hg).1, cur, _, hg, fun j hj => ⟨S.getD j 0, ?_⟩⟩⟩
    have e2 : (cur.toList.take (S.length * 1))[j]? = (S.map (Value.int .i64))[j]? := by rw [h2]
    rw [List.getElem?_take, if_pos (by omega), Array.getElem?_toList] at e2
    rw [e2]
    simp [List.getD, hj]
theorem WrI.blk {w : World} {g M : Nat} {f : Nat → Int} (h : BlkZ w g M f) : WrI w g w.heap.size (.slice (some ⟨g, 0, none⟩) M M) M := by
  have hlt := h.lt
  obtain ⟨cur, T, hg, hs, hc⟩ := h
  exact ⟨_, M, rfl, .inr ⟨g, rfl, Nat.le_refl _, hlt, cur, T, hg, fun j hj => ⟨_, hc j hj⟩⟩⟩
theorem WrI.down {w : World} {B B' U n : Nat} {v : Value} (h : WrI w B U v n) (hB : B' ≤ B) : WrI w B' U v n := by
  obtain ⟨p, c, e, h⟩ := h
  exact ⟨p, c, e, h.imp id fun ⟨g, a, b, d, r⟩ => ⟨g, a, Nat.le_trans hB b, d, r⟩⟩

/-! ### What was put by -/

def keyL (l : List Int) (k : Nat) : List (Int × Int) := (List.range k).map fun (j : Nat) => ((j : Int), l.getD j 0)

theorem keyL_len (l : List Int) (k : Nat) : (keyL l k).length = k := by simp [keyL]
theorem putL_last : ∀ (L : List (Int × Int)) (k v : Int), (∀ p ∈ L, p.1 < k) → putL L k v = L ++ [(k, v)]
  | [], k, v, _ => rfl
  | p :: r, k, v, h => by
    have h1 := h p (List.mem_cons_self ..)
    rw [putL, if_neg (by omega), if_neg (by omega), putL_last r k v (fun q hq => h q (List.mem_cons_of_mem _ hq))]; rfl
theorem keyL_put (l : List Int) (k : Nat) : putL (keyL l k) (k : Int) (l.getD k 0) = keyL l (k + 1) := by
  rw [putL_last _ _ _ (fun p hp => by
    obtain ⟨j, hj, rfl⟩ := List.mem_map.1 hp
    have := List.mem_range.1 hj
    show (j : Int) < k
    omega)]
  unfold keyL
  rw [List.range_succ, List.map_append]; rfl
theorem keyL_get (l : List Int) {k i : Nat} (hi : i < k) : hasL (keyL l k) (i : Int) = true ∧ (atL (keyL l k) (i : Int)).2 = l.getD i 0 := by
  have hf : (keyL l k).find? (fun p => p.1 == (i : Int)) = some ((i : Int), l.getD i 0) := by
    unfold keyL
    rw [List.find?_map]
    have : (List.range k).find? ((fun p : Int × Int => p.1 == (i : Int)) ∘ fun (j : Nat) => ((j : Int), l.getD j 0)) = some i := by
      rw [List.find?_range_eq_some]
      refine ⟨by simp, List.mem_range.2 hi, fun j hj => by simp; omega⟩
    rw [this]; rfl
  refine ⟨?_, by unfold atL; rw [hf]; rfl⟩
  unfold hasL
  rw [List.any_eq_true]
  have := List.find?_some hf
  exact ⟨_, List.mem_of_find?_eq_some hf, this⟩

/-- What came in, and what was put by: a set, a row, a map. -/
structure KeptB (w : World) (l : List Int) (p0 : Option Addr) (T0 T1 T2 : Nat) (S : List Int) (p4 : Option Addr) (c4 b4 q rg R first : Nat) (pr : Option Addr) (f : Nat → Int) (qm bm nm : Nat) : Prop where
  inp : LAt w p0 l
  inpB : l ≠ [] → ∀ a, p0 = some a → a.block < T0
  set : LAt w p4 S
  setB : S ≠ [] → ∀ a, p4 = some a → T1 ≤ a.block ∧ a.block < T2
  box : w.heap[b4]? = some (.cells #[.slice p4 S.length c4] 25 (0, 0))
  boxB : T1 ≤ b4 ∧ b4 < T2
  row : RowAt w q rg R first pr f l
  rowB : T1 ≤ q ∧ q < T2 ∧ T1 ≤ rg ∧ rg < T2
  map : MapAt w qm bm nm (keyL l l.length)
  mapB : T1 ≤ qm ∧ qm < T2 ∧ T1 ≤ bm ∧ bm < T2

theorem lat_keptS {X : Nat → Prop} {w w' : World} {p : Option Addr} {zs : List Int} (h : LAt w p zs) (hg : Fr2 X w w') (hX : zs ≠ [] → ∀ a, p = some a → ¬ X a.block) : LAt w' p zs := by
  rcases h with h | ⟨g, off, rfl, hl, hc⟩
  · exact .inl h
  · by_cases h0 : zs = []
    · exact .inl h0
    · exact .inr ⟨g, off, rfl, Nat.lt_of_lt_of_le hl hg.size, fun j hj => by rw [← hc j hj]; exact World.cell?_of_block (w := w) (hg.block g hl (hX h0 ⟨g, off, none⟩ rfl))⟩

theorem fr_keep {X : Nat → Prop} {w w' : World} {k : Nat} {o : Obj} (h : Fr2 X w w') (hb : w.heap[k]? = some o) (hn : ¬ X k) : w'.heap[k]? = some o := (h.block k (Array.getElem?_eq_some_iff.1 hb).1 hn).trans hb

theorem row_keptS {X : Nat → Prop} {w w' : World} {q rg R first : Nat} {pr : Option Addr} {f : Nat → Int} {zs : List Int} (h : RowAt w q rg R first pr f zs) (hg : Fr2 X w w') (h1 : ¬ X q) (h2 : ¬ X rg) : RowAt w' q rg R first pr f zs :=
  ⟨fr_keep hg h.box h1, h.cnt, h.big, h.fst, h.ring.imp id fun ⟨a, b, c⟩ => ⟨a, b, c.keptS hg h2⟩, h.vals⟩

theorem map_keptS {X : Nat → Prop} {w w' : World} {q b n : Nat} {l : List (Int × Int)} (h : MapAt w q b n l) (hg : Fr2 X w w') (h1 : ¬ X q) (h2 : ¬ X b) : MapAt w' q b n l := by
  refine ⟨fr_keep hg h.box h1, h.ne, ?_, h.asc⟩
  obtain ⟨es, clock, hb, r⟩ := h.own
  exact ⟨es, clock, fr_keep hg hb h2, r⟩

theorem KeptB.kept {w w' : World} {l : List Int} {p0 : Option Addr} {T0 T1 T2 : Nat} {S : List Int} {p4 : Option Addr} {c4 b4 q rg R first : Nat} {pr : Option Addr} {f : Nat → Int} {qm bm nm : Nat} {X : Nat → Prop} (h : KeptB w l p0 T0 T1 T2 S p4 c4 b4 q rg R first pr f qm bm nm) (hg : Fr2 X w w') (hX : ∀ k, X k → T0 ≤ k ∧ (k < T1 ∨ T2 ≤ k)) : KeptB w' l p0 T0 T1 T2 S p4 c4 b4 q rg R first pr f qm bm nm := by
  obtain ⟨r1, r2, r3, r4⟩ := h.rowB
  obtain ⟨m1, m2, m3, m4⟩ := h.mapB
  have no : ∀ k, T1 ≤ k → k < T2 → ¬ X k := fun k h1 h2 hx => by have := hX k hx; omega
  exact ⟨lat_keptS h.inp hg (fun h0 a ha hx => by have := h.inpB h0 a ha; have := hX _ hx; omega), h.inpB,
    lat_keptS h.set hg (fun h0 a ha => no _ (h.setB h0 a ha).1 (h.setB h0 a ha).2), h.setB,
    fr_keep hg h.box (no _ h.boxB.1 h.boxB.2), h.boxB, row_keptS h.row hg (no _ r1 r2) (no _ r3 r4), h.rowB, map_keptS h.map hg (no _ m1 m2) (no _ m3 m4), h.mapB⟩
end Go.Proofs.Ytljpgmhgnfnbkaa
