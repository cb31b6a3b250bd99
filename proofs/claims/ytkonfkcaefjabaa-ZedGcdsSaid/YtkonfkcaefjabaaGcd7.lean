/- The law on greatest common divisors: what its loop keeps. -/
import Derived.Test.YtkonfkcaefjabaaRGcd
import Derived.Test.YtkonfkcaefjabaaZLcm
import Derived.Test.YtkonfkcaefjabaaZs
import Derived.Test.YtkonfkcaefjabaaAnchor
import Derived.Test.YtkonfkcaefjabaaPair
namespace Go.Proofs.Ytkonfkcaefjabaa
open Go.RowKit Mx

theorem OwnZ.congr {w : World} {base g cap n : Nat} {F F' : Nat → Int} (h : OwnZ w base g cap n F) (e : ∀ j, j < n → F j = F' j) : OwnZ w base g cap n F' := by
  obtain ⟨s, p, l, c, h1, h2⟩ := h
  exact ⟨s, p, l, c, h1, fun j hj => ⟨e j hj ▸ (h2 j hj).1, (h2 j hj).2⟩⟩

theorem zbox_cells {w : World} {r : Nat} {s : Int} {T : TypeId} {q : Option Addr} {l c : Nat} (hb : w.heap[r]? = some (.cells #[.int .i64 s, .slice q l c] T (0, 0))) : ∀ o x, w.cell? ⟨r, o, none⟩ ≠ some (.int .u64 x) := by
  intro o x h
  rw [cell_of_row w r o _ T (0, 0) hb] at h
  match o, h with
  | 0, h => simp at h
  | 1, h => simp at h
  | (o + 2), h => simp at h

/-- A slice of Ints outlives a write to a box of the document's. -/
theorem OwnZ.off {w w' : World} {base g cap n q : Nat} {F : Nat → Int} {s : Int} {p : Option Addr} {l c : Nat} {T : TypeId} (h : OwnZ w base g cap n F) (hn : 0 < n) (hb : w.heap[q]? = some (.cells #[.int .i64 s, .slice p l c] T (0, 0)))
    (hk : ∀ k, k ≠ q → w'.heap[k]? = w.heap[k]?) (hg : w.grownBy w' (some q)) (hq : q < base) : OwnZ w' base g cap n F := by
  obtain ⟨hb1, hb2, -⟩ := h.bounds hn
  obtain ⟨sf, pf, lf, cf, h1, h2⟩ := h
  refine ⟨sf, pf, lf, cf, h1.kept hg (.inr (by simp [Value.ownBlock]; omega)), fun j hj => ⟨?_, (h2 j hj).2⟩⟩
  obtain ⟨s', v, N, he, hm, h3⟩ := (h2 j hj).1
  exact ⟨s', v, N, he, hm.off (zbox_cells hb) hg.size (fun b o hbr => World.cell?_of_block (w := w) (hk b hbr)), h3⟩

/-- append of one Int to a slice that append made, or to nil, as a step of the walk, and where the row lies. -/
theorem wpList_appZU {t : TypeId} (ht : Try.prog.underlying t = some (.slice 25))
    {w0 : World} {ops : Array Oper} {rest : List Oper} {o : Oper} {a : Act} {Q : Exit → Act → World → Prop} (hgd : o.guard = none) (s x : Operand) (ho : o.op = .call { callee := .builtin .append, args := #[s, x], argTypes := #[t, t] })
    (base gr gx n : Nat) (F : Nat → Int) (v : Value) (hv : (v = .slice none 0 0 ∧ n = 0) ∨ (0 < n ∧ ∃ cap, v = .slice (some ⟨gr, 0, none⟩) n cap ∧ OwnZ w0 base gr cap n F)) (hx0 : n = 0 → gx = w0.heap.size) (hx1 : 0 < n → gx = gr)
    (s0 : Bool) (p0 : Option Addr) (l0 c0 : Nat) (Z : Int) (hs : a.eval s = v) (hz : IsInt w0 (.agg #[.bool s0, .slice p0 l0 c0]) Z) (hzp : 0 < n → ∀ a, 0 < l0 → p0 = some a → a.block ≠ gr)
    (H : Nat) (hH : w0.heap.size = H) (hx : a.eval x = .slice (some ⟨H, 0, none⟩) 1 1) (hn : n ≤ 1000000000) (hbase : base ≤ w0.heap.size)
    (K : ∀ g' cap' w', OwnZ w' base g' cap' (n + 1) (fun j => if j = n then Z else F j) → w0.grownBy w' (some gx) → (g' = gx ∨ w0.heap.size ≤ g') → wpList Try.prog ops Q rest (a.put o.dst (.slice (some ⟨g', 0, none⟩) (n + 1) cap')) w') :
    wpList Try.prog ops Q (o :: rest) a (w0.alloc (.cells #[.bool s0, .slice p0 l0 c0] 25)) := by
  subst hH
  obtain ⟨i0, hi, hz0, hz1, hz2⟩ := infoZ_parts
  have htop : ∀ (j : Nat) (u : Value), [Value.bool s0, .slice p0 l0 c0][j]? = some u → (w0.alloc (.cells #[.bool s0, .slice p0 l0 c0] 25)).cell? ((⟨w0.heap.size, 0, none⟩ : Addr).add j) = some u := by
    intro j u hj
    match j, hj with
    | 0, hj => simp at hj; subst hj; simp [Addr.add]
    | 1, hj => simp at hj; subst hj; simp [Addr.add]
  rcases hv with ⟨hv, hn0⟩ | ⟨hn0, cap, hv, hown⟩
  · subst hn0
    subst hv
    obtain rfl := hx0 rfl
    refine wpList_append_lies (P := Try.prog) _ hgd s x t ho base 25 i0 (.agg #[.bool false, .slice none 0 0]) 2 32 ht hi hz0 hz1 hz2 rfl (by decide) _ 0 [] hs (World.ownsRow_nil _ base 25 2) ⟨w0.heap.size, 0, none⟩ 1 1 [.bool s0, .slice p0 l0 c0] hx rfl htop ?_ (by omega) (by unfold maxLen; omega) (by omega) (by simp; omega) (w0.heap.size + 1) (by simp) ?_
    · intro u hu; simp at hu; rcases hu with rfl | rfl <;> rfl
    · intro g' cap' w' h3 h4 h5 _
      have hgr : w0.grownBy w' none := ⟨h4.os, h4.tape, h4.output, Nat.le_trans (by simp) h4.size, fun j hj hr => (h4.block j (by simp; omega) (by simp [Value.ownBlock])).trans (Below.heap_alloc w0 _ j hj)⟩
      have h5' : w0.heap.size + 1 ≤ g' := by
        rcases h5 with h5 | h5
        · simp [Value.ownBlock] at h5
        · omega
      refine K g' cap' w' ⟨fun _ => s0, fun _ => p0, fun _ => l0, fun _ => c0, h3, fun j hj => ⟨?_, fun a hl ha => ?_⟩⟩ ⟨hgr.os, hgr.tape, hgr.output, hgr.size, fun j hj _ => hgr.block j hj (by simp)⟩ (.inr (by omega))
      · obtain rfl : j = 0 := by omega
        simpa using hz.kept hgr
      · obtain ⟨a', e, hlt⟩ := int_some hz hl
        have e2 : some a = some a' := ha.symm.trans e
        injection e2 with e2; subst e2
        omega
  · subst hv
    obtain rfl := hx1 hn0
    obtain ⟨sf, pf, lf, cf, h1, h2⟩ := hown
    have h1a := h1.kept (World.grownBy_alloc w0 (.cells #[.bool s0, .slice p0 l0 c0] 25) none) (.inr (by simp [Value.ownBlock]))
    refine wpList_append_lies (P := Try.prog) _ hgd s x t ho base 25 i0 (.agg #[.bool false, .slice none 0 0]) 2 32 ht hi hz0 hz1 hz2 rfl (by decide) _ n (cellsZ sf pf lf cf n) hs h1a ⟨w0.heap.size, 0, none⟩ 1 1 [.bool s0, .slice p0 l0 c0] hx rfl htop ?_ (by omega) (by unfold maxLen; omega) (by omega) (by simp; omega) (w0.heap.size + 1) (by simp) ?_
    · intro u hu; simp at hu; rcases hu with rfl | rfl <;> rfl
    · intro g' cap' w' h3 h4 h5 _
      have hgr : w0.grownBy w' (some gx) := ⟨h4.os, h4.tape, h4.output, Nat.le_trans (by simp) h4.size, fun j hj hr => (h4.block j (by simp; omega) (by simpa [Value.ownBlock] using hr)).trans (Below.heap_alloc w0 _ j hj)⟩
      have h5' : g' = gx ∨ w0.heap.size + 1 ≤ g' := by
        rcases h5 with h5 | h5
        · simp [Value.ownBlock] at h5; exact .inl h5.symm
        · exact .inr (by omega)
      have hfar : ∀ (s : Bool) (p : Option Addr) (l c : Nat) (Y : Int), IsInt w0 (.agg #[.bool s, .slice p l c]) Y → (∀ a, 0 < l → p = some a → a.block ≠ gx) → ∀ a, 0 < l → p = some a → a.block ≠ g' := by
        intro s p l c Y hI hne a hl ha
        obtain ⟨a', e, hlt⟩ := int_some hI hl
        rw [ha] at e; injection e with e; subst e
        rcases h5' with h5 | h5
        · subst h5; exact hne a hl ha
        · omega
      refine K g' cap' w' ⟨fun j => if j = n then s0 else sf j, fun j => if j = n then p0 else pf j, fun j => if j = n then l0 else lf j, fun j => if j = n then c0 else cf j, ?_, fun j hj => ?_⟩ hgr (h5'.imp id (by omega))
      · rw [cellsZ_succ, if_pos rfl, if_pos rfl, if_pos rfl, if_pos rfl, cellsZ_congr (s' := sf) (p' := pf) (l' := lf) (c' := cf) (fun j hj => by simp [show j ≠ n by omega])]
        exact h3
      · by_cases e : j = n
        · subst e
          simp only [if_pos]
          exact ⟨int_row hz hgr (hzp hn0), hfar _ _ _ _ _ hz (hzp hn0)⟩
        · simp only [if_neg e]
          obtain ⟨k1, k2⟩ := h2 j (by omega)
          exact ⟨int_row k1 hgr (fun a h => k2 a h), hfar _ _ _ _ _ k1 (fun a h => k2 a h)⟩

/-- What lies behind k texts. -/
def GcdRel7 (w1 : World) (ls : Nat → ByteArray) (v : Value) (k : Nat) (cur : World) : Prop :=
  ∃ (F : Nat → Int) (gr : Nat), ((v = .slice none 0 0 ∧ k = 0) ∨ (0 < k ∧ ∃ cap, v = .slice (some ⟨gr, 0, none⟩) k cap ∧ OwnZ cur (w1.heap.size + 1) gr cap k F)) ∧ (∀ j, j < k → F j = parseV (ls j).data.toList) ∧
    GBox 0 none none cur w1.heap.size w1.heap.size gr ((gF F k : Nat) : Int) ∧ Below w1.heap.size w1 cur ∧ w1.heap.size < cur.heap.size

theorem rel7_start (w1 : World) (ls : Nat → ByteArray) : GcdRel7 w1 ls (.slice none 0 0) 0 (w1.alloc (.cells #[.int .i64 0, .slice none 0 0] 31)) :=
  ⟨fun _ => 0, w1.heap.size, .inl ⟨rfl, rfl⟩, fun j h => by omega, ⟨0, none, 0, 0, top1 _ _, isZ_zero _, fun h => by omega⟩, gb_below (World.grownBy_alloc w1 _ none), by simp⟩

theorem gF_ten {F : Nat → Int} {ls : Nat → ByteArray} {k : Nat} (h : ∀ j, j < k → F j = parseV (ls j).data.toList) : gF F k < 10 ^ 60 :=
  gF_lt (by decide +kernel) (fun j hj => by rw [h j hj]; exact parse_ten _)

theorem gF_congr {F F' : Nat → Int} : ∀ {k : Nat}, (∀ j, j < k → F j = F' j) → gF F k = gF F' k
  | 0, _ => rfl
  | k + 1, h => by
    show Nat.gcd (gF F k) (F k).natAbs = Nat.gcd (gF F' k) (F' k).natAbs
    rw [gF_congr (k := k) (fun j hj => h j (by omega)), h k (by omega)]

theorem gF_next (F : Nat → Int) (k : Nat) (Z : Int) : ((Int.gcd ((gF F k : Nat) : Int) Z : Nat) : Int) = ((gF (fun j => if j = k then Z else F j) (k + 1) : Nat) : Int) := by
  show _ = ((Nat.gcd (gF (fun j => if j = k then Z else F j) k) ((fun j => if j = k then Z else F j) k).natAbs : Nat) : Int)
  rw [gF_congr (F := fun j => if j = k then Z else F j) (F' := F) (k := k) (fun j hj => by simp [show j ≠ k by omega])]
  simp [Int.gcd]

/-- One text more. -/
theorem rel7_step {w1 w8 w9 wy : World} {ls : Nat → ByteArray} {F : Nat → Int} {k g' cap' : Nat} {s0 s9 : Int} {p0 p9 : Option Addr} {n0 c0 n9 c9 : Nat}
    (hO : OwnZ w8 (w1.heap.size + 1) g' cap' (k + 1) F) (hF : ∀ j, j < k + 1 → F j = parseV (ls j).data.toList)
    (hb : w8.heap[w1.heap.size]? = some (.cells #[.int .i64 s0, .slice p0 n0 c0] 31 (0, 0))) (hg : w8.grownBy w9 none)
    (hz : IsZ w9 (.agg #[.int .i64 s9, .slice p9 n9 c9]) ((gF F (k + 1) : Nat) : Int)) (hf : 0 < n9 → ∃ a, p9 = some a ∧ a.block ≠ w1.heap.size ∧ a.block ≠ g') (hbl : Below w1.heap.size w1 w8)
    (hy : wy = (w9.setCell ⟨w1.heap.size, 0, none⟩ (.int .i64 s9)).setCell ⟨w1.heap.size, 1, none⟩ (.slice p9 n9 c9)) :
    GcdRel7 w1 ls (.slice (some ⟨g', 0, none⟩) (k + 1) cap') (k + 1) wy := by
  obtain ⟨k1, k2, k3⟩ := put2 (bx hg hb) hy
  refine ⟨F, g', .inr ⟨by omega, cap', rfl, (hO.kept hg).off (by omega) (bx hg hb) k2 k3 (by omega)⟩, hF, ⟨s9, p9, n9, c9, k1, z_row hz k3 (fun h => ?_), fun h => ?_⟩, gb_new (gb_below (gb_trans (below_gb hbl) hg)) (Nat.le_refl _) k3, ?_⟩
  · obtain ⟨a, e1, e2, e3⟩ := hf h
    exact ⟨a, e1, e2⟩
  · obtain ⟨a, e1, e2, e3⟩ := hf h
    exact ⟨a, e1, e2, e3, .inl (Nat.zero_le _)⟩
  · exact (Array.getElem?_eq_some_iff.1 k1).1

/-- Behind the append: what lies in the boxes, and where digits lie. -/
theorem rel7_mid {w1 wr wa w8 : World} {gr gx g' h7 k n7 c7 : Nat} {s7 : Int} {p7 : Option Addr} {G U : Int}
    (hbx : GBox 0 none none wr w1.heap.size w1.heap.size gr G) (hgw : wr.grownBy wa none) (hT : wa.heap[h7]? = some (.cells #[.int .i64 s7, .slice p7 n7 c7] 31 (0, 0))) (hZ : IsZ wa (.agg #[.int .i64 s7, .slice p7 n7 c7]) U)
    (hfar : 0 < n7 → ∃ a, p7 = some a ∧ wr.heap.size ≤ a.block) (hsz : w1.heap.size < wr.heap.size) (hh : wr.heap.size ≤ h7) (h0 : k = 0 → gx = wa.heap.size) (h1 : 0 < k → gx = gr ∧ w1.heap.size < gr ∧ gr < wr.heap.size)
    (hG : wa.grownBy w8 (some gx)) (hg' : g' = gx ∨ wa.heap.size ≤ g') (hlt : g' < w8.heap.size) (hbl : Below w1.heap.size w1 wr) :
    ∃ s0 p0 n0 c0 qa qb, w8.heap[w1.heap.size]? = some (.cells #[.int .i64 s0, .slice p0 n0 c0] 31 (0, 0)) ∧ IsZ w8 (.agg #[.int .i64 s0, .slice p0 n0 c0]) G ∧
      w8.heap[h7]? = some (.cells #[.int .i64 s7, .slice p7 n7 c7] 31 (0, 0)) ∧ IsZ w8 (.agg #[.int .i64 s7, .slice p7 n7 c7]) U ∧ (0 < n0 → qa = p0) ∧ (0 < n7 → qb = p7) ∧
      (∀ a : Addr, (w8.heap.size ≤ a.block ∨ qa = some a ∨ qb = some a) → a.block ≠ w1.heap.size ∧ a.block ≠ g') ∧ Below w1.heap.size w1 w8 := by
  obtain ⟨s0, p0, n0, c0, b0, z0, f0⟩ := hbx
  have F0 := Lib.hid f0; have HFA := Lib.hid hfar
  clear f0 hfar
  have hsa := hgw.size
  have hs8 := hG.size
  have hl7 := (Array.getElem?_eq_some_iff.1 hT).1
  have hgx : gx ≠ w1.heap.size ∧ gx ≠ h7 ∧ w1.heap.size ≤ gx := by
    rcases Nat.eq_zero_or_pos k with e | e
    · have := h0 e; omega
    · have := h1 e; omega
  have hP0 : Hid (0 < n0 → ∃ a, p0 = some a ∧ a.block ≠ w1.heap.size ∧ a.block ≠ gx ∧ a.block ≠ g') := Lib.hid fun h => by
    obtain ⟨a, e1, e2, e3, -⟩ := F0.out h
    obtain ⟨b, e4, e5⟩ := z_some z0 h
    have e6 : some a = some b := e1.symm.trans e4
    injection e6 with e6; subst e6
    have hx : a.block ≠ gx := by
      rcases Nat.eq_zero_or_pos k with e | e
      · have := h0 e; omega
      · have := h1 e; omega
    exact ⟨a, e1, by omega, hx, by omega⟩
  have hP7 : Hid (0 < n7 → ∃ a, p7 = some a ∧ a.block ≠ w1.heap.size ∧ a.block ≠ gx ∧ a.block ≠ g') := Lib.hid fun h => by
    obtain ⟨a, e1, e2⟩ := HFA.out h
    obtain ⟨b, e4, e5⟩ := z_some hZ h
    have e6 : some a = some b := e1.symm.trans e4
    injection e6 with e6; subst e6
    have hx : a.block ≠ gx := by
      rcases Nat.eq_zero_or_pos k with e | e
      · have := h0 e; omega
      · have := h1 e; omega
    exact ⟨a, e1, by omega, hx, by omega⟩
  have hb0 := bx hgw b0
  refine ⟨s0, p0, n0, c0, if n0 = 0 then none else p0, if n7 = 0 then none else p7, (hG.block _ (by omega) (by simp; omega)).trans hb0, z_row (z0.kept hgw) hG (fun h => ?_), (hG.block _ hl7 (by simp; omega)).trans hT, z_row hZ hG (fun h => ?_), fun h => if_neg (by omega), fun h => if_neg (by omega), fun a ha => ?_, gb_new (gb_below (gb_trans (below_gb hbl) hgw)) hgx.2.2 hG⟩
  · obtain ⟨a, e1, e2, e3, e4⟩ := hP0.out h; exact ⟨a, e1, e3⟩
  · obtain ⟨a, e1, e2, e3, e4⟩ := hP7.out h; exact ⟨a, e1, e3⟩
  · rcases ha with ha | ha | ha
    · omega
    · by_cases hn : n0 = 0
      · rw [if_pos hn] at ha; cases ha
      · rw [if_neg hn] at ha
        obtain ⟨b, e1, e2, e3, e4⟩ := hP0.out (by omega)
        rw [ha] at e1; injection e1 with e1; subst e1
        exact ⟨e2, e4⟩
    · by_cases hn : n7 = 0
      · rw [if_pos hn] at ha; cases ha
      · rw [if_neg hn] at ha
        obtain ⟨b, e1, e2, e3, e4⟩ := hP7.out (by omega)
        rw [ha] at e1; injection e1 with e1; subst e1
        exact ⟨e2, e4⟩

/-- Behind all texts. -/
theorem rel7_end {w1 cur : World} {ls : Nat → ByteArray} {v : Value} {m : Nat} (h : GcdRel7 w1 ls v m cur) :
    ∃ (F : Nat → Int) (gr cap : Nat) (pv : Option Addr) (s : Nat → Bool) (p : Nat → Option Addr) (l c : Nat → Nat), v = .slice pv m cap ∧ (m = 0 ∨ pv = some ⟨gr, 0, none⟩) ∧ m ≤ cap ∧ cap ≤ maxLen ∧ Zs cur gr m s p l c F ∧ (∀ j, j < m → (F j).natAbs < 10 ^ 60) ∧ gF F m < 10 ^ 60 ∧
      (∃ (s0 : Int) (p0 : Option Addr) (n0 c0 : Nat), cur.heap[w1.heap.size]? = some (.cells #[.int .i64 s0, .slice p0 n0 c0] 31 (0, 0)) ∧ IsZ cur (.agg #[.int .i64 s0, .slice p0 n0 c0]) ((gF F m : Nat) : Int)) ∧ w1.grownBy cur none := by
  obtain ⟨F, gr, hv, hF, ⟨s0, p0, n0, c0, b0, z0, -⟩, hbl, -⟩ := h
  have hA : ∀ j, j < m → (F j).natAbs < 10 ^ 60 := fun j hj => by rw [hF j hj]; exact parse_ten _
  have hB := gF_ten hF
  rcases hv with ⟨hv, hm⟩ | ⟨hm, cap, hv, hO⟩
  · subst hm
    exact ⟨F, gr, 0, none, fun _ => false, fun _ => none, fun _ => 0, fun _ => 0, hv, .inl rfl, Nat.le_refl _, by unfold maxLen; omega, fun j hj => by omega, hA, hB, ⟨s0, p0, n0, c0, b0, z0⟩, below_gb hbl⟩
  · obtain ⟨-, -, h3, h4⟩ := hO.bounds hm
    obtain ⟨s, p, l, c, hz⟩ := hO.zs
    exact ⟨F, gr, cap, _, s, p, l, c, hv, .inr rfl, h3, h4, hz, hA, hB, ⟨s0, p0, n0, c0, b0, z0⟩, below_gb hbl⟩

theorem ten_bw {n : Nat} (h : n < 10 ^ 60) : n < Bw ^ 4 := by
  have h1 : (10 : Nat) ^ 60 ≤ (10 ^ 19) ^ 4 := by rw [← Nat.pow_mul]; exact Nat.pow_le_pow_right (by omega) (by omega)
  exact Nat.lt_of_lt_of_le h (Nat.le_trans h1 (Nat.pow_le_pow_left (by unfold Bw; omega) 4))

/-- The greatest common divisor of two, written out. -/
theorem Gcd2_k {w : World} {L : List (Value × Int × Nat)} {g : Nat} {T : TypeId} {s1 s2 : Bool} {p1 p2 : Option Addr} {n1 c1 n2 c2 i j : Nat} {X Y : Int} (H : Known w L) (hb : w.heap[g]? = some (.cells #[.bool s1, .slice p1 n1 c1, .bool s2, .slice p2 n2 c2] T (0, 0)))
    (hx : (.agg #[.bool s1, .slice p1 n1 c1], X, i) ∈ L) (hy : (.agg #[.bool s2, .slice p2 n2 c2], Y, j) ∈ L) (hi : i ≤ 1000) (hj : j ≤ 1000) (hij : j ≤ i) :
    Calls Try.prog 34 #[.slice (some ⟨g, 0, none⟩) 2 2] w (KPost L ((Nat.gcd X.natAbs Y.natAbs : Nat) : Int) i w) := by
  obtain ⟨a1, a2⟩ := H _ hx
  obtain ⟨b1, b2⟩ := H _ hy
  refine (GcdZ_c (some ⟨g, 0, none⟩) g 2 2 (fun j => if j = 0 then s1 else s2) (fun j => if j = 0 then p1 else p2) (fun j => if j = 0 then n1 else n2) (fun j => if j = 0 then c1 else c2) (fun j => if j = 0 then X else Y) w (.inr rfl) (Nat.le_refl _) (by unfold maxLen; omega) ?_ ?_).mono fun e w' h => kpost_of H ?_ ?_
  · intro k hk
    match k, hk with
    | 0, _ => exact ⟨by rw [cell_of_row w g _ _ T (0, 0) hb]; rfl, by rw [cell_of_row w g _ _ T (0, 0) hb]; rfl, a1⟩
    | 1, _ => exact ⟨by rw [cell_of_row w g _ _ T (0, 0) hb]; rfl, by rw [cell_of_row w g _ _ T (0, 0) hb]; rfl, b1⟩
  · intro k hk
    match k, hk with
    | 0, _ => exact lim_k hi a2
    | 1, _ => exact lim_k hj b2
  · have a2 : X.natAbs < Bw ^ i := a2
    have b2 : Y.natAbs < Bw ^ j := b2
    rw [Int.natAbs_natCast]
    rcases Nat.eq_zero_or_pos X.natAbs with e | e
    · rw [e, Nat.gcd_zero_left]; exact Nat.lt_of_lt_of_le b2 (bw_le hij)
    · exact Nat.lt_of_le_of_lt (Nat.gcd_le_left _ e) a2
  · have e : gF (fun j => if j = 0 then X else Y) 2 = Nat.gcd X.natAbs Y.natAbs := by
      show Nat.gcd (Nat.gcd 0 X.natAbs) Y.natAbs = _
      rw [Nat.gcd_zero_left]
    rw [← e]; exact h

theorem Lcm_k {w : World} {L : List (Value × Int × Nat)} {x y : Value} {X Y : Int} {i j : Nat} (H : Known w L) (hx : (x, X, i) ∈ L) (hy : (y, Y, j) ∈ L) (hi : i ≤ 100) (hj : j ≤ 100) :
    Calls Try.prog 35 #[x, y] w (KPost L ((lcmN X.natAbs Y.natAbs : Nat) : Int) (i + j) w) := by
  obtain ⟨a1, a2⟩ := H _ hx
  obtain ⟨b1, b2⟩ := H _ hy
  refine (Lcm_c x y X Y w a1 b1 (Nat.lt_of_lt_of_le a2 (bw_le hi)) (Nat.lt_of_lt_of_le b2 (bw_le hj))).mono fun e w' h => kpost_of H ?_ h
  have a2 : X.natAbs < Bw ^ i := a2
  have b2 : Y.natAbs < Bw ^ j := b2
  rw [Int.natAbs_natCast]
  unfold lcmN
  split
  · exact Nat.pow_pos Bw_pos
  · exact mul_lt (Nat.lt_of_le_of_lt (Nat.div_le_self _ _) a2) b2
end Go.Proofs.Ytkonfkcaefjabaa
