/- slices.Backward over ints; appendBackward: the kids put on a list, the last one first. -/
import Derived.RangeFuncNested
import Derived.RangeFuncBound
import Derived.RangeFuncCalls
import Derived.RangeFuncLeaves
import Derived.Shelf.Abstract
import Derived.Shelf.RegionOpen
import Derived.WalkKit
import Derived.OwnWalkIn
import Derived.TacticsInMore
import Derived.LoopNIn
import Derived.LoopIn
import Derived.Maps.OwnIn
import Derived.Test.YtdfegmdmappefaaDoorTMem
import Derived.Test.YtdfegmdmappefaaDoorUMath
namespace Go.Proofs.YtdfegmdmappefaaDoor
open Go.RowKit Go.Shelf

attribute [local go_sem] Oper.semAt_some

/-- What has come when k rounds are over. -/
def uptoB (zs : List Int) (k : Nat) : List (Int × Int) := (List.range k).map fun j => (((zs.length - 1 - j : Nat) : Int), zs[zs.length - 1 - j]?.getD 0)
theorem uptoB_succ (zs : List Int) (k : Nat) : uptoB zs (k + 1) = uptoB zs k ++ [(((zs.length - 1 - k : Nat) : Int), zs[zs.length - 1 - k]?.getD 0)] := by simp [uptoB, List.range_succ]
theorem uptoB_length (zs : List Int) (k : Nat) : (uptoB zs k).length = k := by simp [uptoB]
theorem uptoB_all (zs : List Int) : (uptoB zs zs.length).map (·.2) = zs.reverse := by
  apply List.ext_getElem
  · simp [uptoB]
  · intro i h1 h2
    have h3 : i < zs.length := by simpa using h2
    simp [uptoB]
    rw [List.getElem?_eq_getElem (by omega)]; rfl

/-- What a round keeps: what lay ahead of the loop, but for some blocks. -/
structure KpS (n₀ : Nat) (S : Nat → Prop) (A B : World) : Prop where
  size : A.heap.size ≤ B.heap.size
  block : ∀ k, k < n₀ → ¬ S k → B.heap[k]? = A.heap[k]?
theorem KpS.refl (n₀ : Nat) (S : Nat → Prop) (A : World) : KpS n₀ S A A := ⟨Nat.le_refl _, fun _ _ _ => rfl⟩
theorem KpS.trans {n₀ : Nat} {S : Nat → Prop} {A B C : World} (h : KpS n₀ S A B) (k : KpS n₀ S B C) : KpS n₀ S A C := ⟨Nat.le_trans h.size k.size, fun i h1 h2 => (k.block i h1 h2).trans (h.block i h1 h2)⟩
theorem KpS.cell {n₀ : Nat} {S : Nat → Prop} {A B : World} (h : KpS n₀ S A B) {a : Addr} (h1 : a.block < n₀) (h2 : ¬ S a.block) : B.cell? a = A.cell? a := World.cell?_of_block (h.block _ h1 h2)

set_option maxRecDepth 100000 in
set_option maxHeartbeats 2000000 in
theorem back1_in (F : Fence) (n : Nat) (h7 : F.fn 67) (hro : F.round = none) (hn : 1 ≤ n) (l Bs n₀ : Nat) (S : Nat → Prop) (p : Option Addr) (cap : Nat) (zs : List Int) (hz : zs.length ≤ 1000000) (hp : zs ≠ [] → ∀ a, p = some a → a.block < n₀ ∧ ¬ S a.block) (hB : Bs < n₀ ∧ ¬ S Bs) (J Jx : List (Int × Int) → World → Prop)
    (hY : ∀ pre x W, J pre W → pre.length < zs.length → YieldAt F (n - 1) Tryd.prog l #[.int .i64 x.1, .int .i64 x.2] W fun e W' =>
      (e = .returned (.bool true) ∧ J (pre ++ [x]) W' ∧ KpS n₀ S W W') ∨ (e = .returned (.bool false) ∧ Jx (pre ++ [x]) W'))
    (W : World) (hBs : W.cell? ⟨Bs, 0, none⟩ = some (.slice p zs.length cap)) (hc : VAt W p (intsV zs)) (h0 : J [] W) :
    CallsIn F n Tryd.prog 67 #[.func (.yield l) #[] #[], .pointer (some ⟨Bs, 0, none⟩)] W fun e W' => (∃ v, e = .returned v) ∧
      ((∃ ys, ys = uptoB zs zs.length ∧ J ys W') ∨ (∃ pre, (∃ k, k ≤ zs.length ∧ pre = uptoB zs k) ∧ Jx pre W')) := by
  obtain ⟨m, hm⟩ : ∃ m, zs.length = m := ⟨_, rfl⟩
  rw [hm] at hBs hz
  have HM := Lib.hid hm
  have hw0 : IntKind.i64.wrap ((m : Int) - 1) = (m : Int) - 1 := IntWalk.i64_in _ (by omega)
  rw [hm] at hY ⊢
  clear hm
  refine callsIn_of_wp Tryd.func67 rfl h7 ?_ hro
  simp only [Tryd.ntmps67, List.size_toArray, List.length_cons, List.length_nil, Nat.reduceAdd, Nat.reduceSub, Array.replicate_succ, Array.replicate_zero, List.push_toArray, List.append_toArray, List.nil_append, List.cons_append]
  gi_wp2
  gi_loopw [3] (fun i wr => ∃ q k : Nat, q + k = m ∧ i = .int .i64 ((q : Int) - 1) ∧ J (uptoB zs k) wr ∧ KpS n₀ S W wr)
    (fun i _ => (intOf i + 1).toNat)
  case atStart => exact ⟨m, 0, by omega, rfl, h0, KpS.refl _ _ _⟩
  case round =>
    obtain ⟨q, k, hk, rfl, hJs, hnx⟩ := hrel
    by_cases hlt : 0 < q
    · obtain ⟨q', rfl⟩ : ∃ q', q = q' + 1 := ⟨q - 1, by omega⟩
      have hidx : zs.length - 1 - k = q' := by rw [HM.out]; omega
      obtain ⟨x, hx⟩ : ∃ x, zs[q']? = some x := ⟨zs[q']'(by rw [HM.out]; omega), List.getElem?_eq_getElem _⟩
      have hi : (((q' + 1 : Nat) : Int) - 1) = (q' : Int) := by omega
      rw [hi]
      obtain ⟨g, off, rfl, hgl, hcx⟩ := hc.resolve_left (fun h => by
        have := congrArg List.length h; rw [intsV_len, HM.out] at this; simp at this; omega)
      obtain ⟨hp1, hp2⟩ := hp (fun h => by rw [h] at hx; simp at hx) _ rfl
      have hcx' : wr.cell? ⟨g, off + q', none⟩ = some (.int .i64 x) := (hnx.cell (a := ⟨g, off + q', none⟩) hp1 hp2).trans (hcx q' _ (intsV_get hx))
      have hbs : wr.cell? ⟨Bs, 0, none⟩ = some (.slice (some ⟨g, off, none⟩) m cap) := (hnx.cell (a := ⟨Bs, 0, none⟩) hB.1 hB.2).trans hBs
      have HU : Hid (uptoB zs (k + 1) = uptoB zs k ++ [((q' : Int), x)]) := Lib.hid (by rw [uptoB_succ, hidx, hx]; rfl)
      obtain ⟨fn, tmps, assign, body, hy, hR⟩ := hY _ ((q' : Int), x) wr hJs (by rw [uptoB_length]; omega)
      dsimp only at hy
      have d1 : decide ((0 : Int) ≤ (q' : Int)) = true := decide_eq_true (by omega)
      have d2 : decide (q' < m) = true := decide_eq_true (by omega)
      have d2' : decide ((q' : Int) < (m : Int)) = true := decide_eq_true (by omega)
      have hw1 : IntKind.i64.wrap ((q' : Int) - 1) = (q' : Int) - 1 := IntWalk.i64_in _ (by omega)
      gi_wp2
      refine hR.mono ?_
      rintro e W3 (⟨rfl, hJ3, hk3⟩ | ⟨rfl, hJx3⟩)
      · rw [← HU.out] at hJ3
        gi_wp2
        go_roundw
        case rel => exact ⟨q', k + 1, by omega, by rfl, hJ3, hnx.trans hk3⟩
        case measure => simp [intOf] <;> omega
      · rw [← HU.out] at hJx3
        gi_wp2
        refine bodyPost_ret (results_none rfl _ _ _) rfl ?_
        exact ⟨⟨_, rfl⟩, .inr ⟨_, ⟨k + 1, by omega, rfl⟩, hJx3⟩⟩
    · obtain rfl : q = 0 := by omega
      obtain rfl : k = m := by omega
      gi_wp2
      go_end0
      exact ⟨⟨_, rfl⟩, .inl ⟨_, rfl, hJs⟩⟩

set_option maxHeartbeats 1000000 in
theorem back_in (F : Fence) (n : Nat) (h5 : F.fn 51) (hro : F.round = none) (a : Option Addr) (len cap : Nat) (w : World) :
    CallsIn F n Tryd.prog 51 #[.slice a len cap] w fun e w' => e = .returned (.func (.func 67) #[] #[.pointer (some ⟨w.heap.size, 0, none⟩)]) ∧ w' = w.alloc (.cells #[.slice a len cap] 45) := by
  refine callsIn_of_wp Tryd.func51 rfl h5 ?_ hro
  simp only [Tryd.ntmps51, List.size_toArray, List.length_cons, List.length_nil, Nat.reduceAdd, Nat.reduceSub, Array.replicate_succ, Array.replicate_zero, List.push_toArray, List.append_toArray, List.nil_append, List.cons_append]
  gi_wp2
  go_ret
  exact ⟨rfl, rfl⟩

theorem back_stops (F : Fence) (n : Nat) (h7 : F.fn 67) (hro : F.round = none) (hn : 1 ≤ n) (Bs n₀ : Nat) (S : Nat → Prop) (p : Option Addr) (cap : Nat) (zs : List Int) (hz : zs.length ≤ 1000000) (w : World) (hn₀ : n₀ ≤ w.heap.size)
    (hp : zs ≠ [] → ∀ a, p = some a → a.block < n₀ ∧ ¬ S a.block) (hB : Bs < n₀ ∧ ¬ S Bs) (hBs : w.cell? ⟨Bs, 0, none⟩ = some (.slice p zs.length cap)) (hc : VAt w p (intsV zs)) :
    SeqStopsK F n Tryd.prog 67 #[.pointer (some ⟨Bs, 0, none⟩)] (fun x : Int × Int => #[Value.int .i64 x.1, Value.int .i64 x.2]) (KpS n₀ S) (fun ys => ys = uptoB zs zs.length) (fun pre => ∃ k, k ≤ zs.length ∧ pre = uptoB zs k) zs.length w := fun l J Jx W hW _ _ hY h0 =>
  back1_in F n h7 hro hn l Bs n₀ S p cap zs hz hp hB J Jx hY W ((hW.cell (p := ⟨Bs, 0, none⟩) (by have := hB.1; show Bs < _; omega)).trans hBs)
    (hc.imp id fun ⟨g, off, e, hl, hcx⟩ => ⟨g, off, e, Nat.lt_of_lt_of_le hl hW.size, fun j v hj => (hW.cell (p := ⟨g, off + j, none⟩) hl).trans (hcx j v hj)⟩) h0

/-- The new list: it owns the elder and the kids behind it; nothing else has turned. -/
def PutPost (base : Nat) (v : Value) (l : List Int) (w : World) (e : Ending) (w' : World) : Prop :=
  ∃ v', e = .returned v' ∧ OwnG 1 3 w' base v' (one (intsV l)) ∧ Fr2 (fun k => some k = v.ownBlock) w w' ∧ ∀ k, v'.ownBlock = some k → v.ownBlock = some k ∨ w.heap.size ≤ k

theorem ownFrom_fr2 {β : Type} {B : Nat} {S : Nat → Prop} {w : World} (hB : w.heap.size ≤ B) : OwnFrom B (fun (_ : β) W => Fr2 S w W) :=
  fun _ _ W' row hs hg hr => ⟨hg.os.trans hs.os, hg.tape.trans hs.tape, hg.output.trans hs.output, Nat.le_trans hs.size hg.size, fun k hk hn =>
    (hg.block k (Nat.lt_of_lt_of_le hk hs.size) (fun e => by have := (hr k e.symm).1; omega)).trans (hs.block k hk hn)⟩

theorem kpS_b {n₀ B : Nat} {S : Nat → Prop} (h : n₀ ≤ B) (W : World) (l : Nat) (o o' : Obj) (hl : B ≤ l) (hh : W.heap[l]? = some o) (_ : o.isCells = false) (_ : o.isWalk = false) : KpS n₀ S W (W.putObj l o') :=
  ⟨by simp [World.putObj], fun k hk _ => World.putObj_heap_other (by omega)⟩

set_option maxRecDepth 100000 in
set_option maxHeartbeats 4000000 in
theorem appendBackward_in (F : Fence) (n : Nat) (hro : F.round = none) (hn : 3 ≤ n) (hF1 : F.fn 29) (hF2 : F.fn 51) (hF3 : F.fn 67) (base : Nat) (S kids : List Int) (v : Value) (p : Option Addr) (c : Nat) (w : World) (hbase : base ≤ w.heap.size) (hown : OwnG 1 3 w base v (one (intsV S))) (hk : VAt w p (intsV kids)) (hkb : kids ≠ [] → ∀ a, p = some a → a.block < w.heap.size ∧ v.ownBlock ≠ some a.block) (hl : S.length + kids.length ≤ 1000000) :
    CallsIn F n Tryd.prog 29 #[v, .slice p kids.length c] w (PutPost base v (S ++ kids.reverse) w) := by
  have h1 : 1 ≤ n := by omega
  obtain ⟨i0, hi, hz0, hz1, hz2⟩ := info_parts infoI
  have hrow0 := hown.1
  rw [one_len, one_flat, intsV_len] at hrow0
  obtain ⟨p0, c0, e0, -⟩ := hown.is
  rw [one_len, intsV_len] at e0
  obtain ⟨bo, hbo⟩ : ∃ bo, v.ownBlock = bo := ⟨_, rfl⟩
  have hblt : ∀ k, bo = some k → k < w.heap.size := fun k e => (hrow0.lt k (hbo.trans e)).2
  have HP : Hid (∀ v' W', OwnG 1 3 W' base v' (one (intsV (S ++ kids.reverse))) → Fr2 (fun k => some k = bo) w W' → (∀ k, v'.ownBlock = some k → bo = some k ∨ w.heap.size ≤ k) → PutPost base v (S ++ kids.reverse) w (.returned v') W') := Lib.hid (fun v' W' h1 h2 h3 => ⟨v', rfl, h1, by rw [hbo]; exact h2, by rw [hbo]; exact h3⟩)
  rw [hbo] at hkb
  have hvb : ∀ k, v.ownBlock = some k → bo = some k ∨ w.heap.size + 2 ≤ k := fun k e => .inl (hbo.symm.trans e)
  generalize PutPost base v (S ++ kids.reverse) w = Q at HP
  clear hbo
  refine callsIn_of_wp_marks Tryd.func29 rfl hF1 ?_ hro
  simp only [Tryd.ntmps29, List.size_toArray, List.length_cons, List.length_nil, Nat.reduceAdd, Nat.reduceSub, Array.replicate_succ, Array.replicate_zero, List.push_toArray, List.append_toArray, List.nil_append, List.cons_append]
  subst e0
  gi_wp2_with (gi_at_call 51; refine (back_in F (n - 1) hF2 hro _ _ _ _).mono ?_; rintro e w' ⟨rfl, rfl⟩)
  have bO := Boxed.new w 45 (.slice p0 S.length c0)
  have bN := Boxed.new (w.alloc (.cells #[.slice p0 S.length c0] 45)) 45 (.slice p kids.length c)
  rw [World.size_alloc] at bN
  have hg1 := World.grownBy_alloc w (.cells #[.slice p0 S.length c0] 45) none
  have hg2 := World.grownBy_alloc (w.alloc (.cells #[.slice p0 S.length c0] 45)) (.cells #[.slice p kids.length c] 45) none
  have hfr : Fr2 (fun k => some k = bo) w ((w.alloc (.cells #[.slice p0 S.length c0] 45)).alloc (.cells #[.slice p kids.length c] 45)) := (Fr2.none hg1).trans (Fr2.none hg2)
  have hS0 : ∀ k, k < w.heap.size + 2 → (some k = bo ∨ k = w.heap.size) ∨ ¬ (some k = bo ∨ k = w.heap.size) := fun k _ => Classical.em _
  refine wpIn_rangeFunc_ownG hro h1 (gf := 67) (lb := #[.pointer (some ⟨w.heap.size + 1, 0, none⟩)]) rfl hF3 (enters_of Tryd.func67 (by kernel_rfl) rfl)
    (back_stops F (n - 1) hF3 hro (by omega) (w.heap.size + 1) (w.heap.size + 2) (fun k => some k = bo ∨ k = w.heap.size) p c kids (by omega) _ (by simp) (fun h a ha => ⟨by have := (hkb h a ha).1; omega, fun hh => by
      rcases hh with hh | hh
      · exact (hkb h a ha).2 hh.symm
      · have := (hkb h a ha).1; omega⟩) ⟨by omega, fun hh => by
      rcases hh with hh | hh
      · have := hblt _ hh.symm; omega
      · omega⟩ bN.cell (((hk.kept hg1).kept hg2))) KpS.trans (kpS_b (by simp)) (Below.refl _ _) (fun _ => rfl)
    (fun pre W => (∃ u, Boxed W w.heap.size 45 u ∧ W.ownsRow base 3 1 u (S.length + pre.length) (intsV (S ++ pre.map (·.2))) ∧ (∀ k, u.ownBlock = some k → bo = some k ∨ w.heap.size + 2 ≤ k)) ∧ (Fr2 (fun k => some k = bo) w W ∧ w.heap.size + 2 ≤ W.heap.size))
    (fun _ _ _ => False)
    (OwnFrom.and (Own.from (holdsRow_own base w.heap.size 45 3 1 (fun pre : List (Int × Int) => S.length + pre.length) (fun pre => intsV (S ++ pre.map (·.2))) (fun _ u => ∀ k, u.ownBlock = some k → bo = some k ∨ w.heap.size + 2 ≤ k)) _) (OwnFrom.and (ownFrom_fr2 (by simp; omega)) (fun _ _ _ _ hs hg _ => Nat.le_trans hs hg.size)))
    (fun _ _ _ _ _ hs _ _ => hs)
    ⟨⟨_, bO.alloc _, by simpa using (hrow0.alloc _).alloc _, hvb⟩, hfr, by simp⟩
    (fun x => { tmps := #[.slice p0 S.length c0, .slice p kids.length c, .pointer (some ⟨w.heap.size, 0, none⟩), undef, .slice none 0 0, undef, .int .i64 x.2, .slice p kids.length c, .func (.func 67) #[] #[.pointer (some ⟨w.heap.size + 1, 0, none⟩)], .int .i64 x.1, .int .i64 x.2, undef, undef, undef, undef, undef], defers := [] }) ?assign ?body ?done ?stop
  case assign =>
    intro l x W K hK
    gi_wp2
    exact hK
  case body =>
    rintro l pre x W ⟨⟨u, hv, hrow, hub⟩, hF, hsz3⟩ hlt
    have hc := hv.cell
    have hsz := hF.size
    have hsz2 : w.heap.size < W.heap.size := hv.lt
    gi_wp2_with (gi_at_builtin; refine wpListIn_append_own_at _ rfl _ _ 45 rfl base 3 i0 (.int .i64 0) 1 8 Tryd.underlying45 hi hz0 hz1 hz2 rfl (by decide) u _ _ rfl (hrow.alloc _) ⟨W.heap.size, 0, none⟩ 1 1 [.int .i64 x.2] rfl rfl (cell_one_new _ _ _) (by simp [Value.oneCell']) (by unfold maxLen; omega) (by omega) (by simp; omega) ?_; intro v' w1 hown' hgrow _ hat; obtain ⟨g', cap', rfl⟩ := ownsRow_succ hown'; have hv1 := (hv.alloc _).kept hgrow (hv.not_row (by decide) hrow); have hc1 := hv1.cell; have hf1 := hv1.frozen)
    have hold : ∀ k, k < W.heap.size → k ≠ w.heap.size → some k ≠ u.ownBlock → (w1.setCell ⟨w.heap.size, 0, none⟩ (.slice (some ⟨g', 0, none⟩) (S.length + pre.length + 1) cap')).heap[k]? = W.heap[k]? := fun k h1 h2 h3 => by
      rw [Below.heap_setCell _ _ _ k (by first | omega | (simp; omega)), hgrow.block k (by simp; omega) h3]
      exact Below.heap_alloc _ _ k h1
    have hsize : W.heap.size ≤ (w1.setCell ⟨w.heap.size, 0, none⟩ (.slice (some ⟨g', 0, none⟩) (S.length + pre.length + 1) cap')).heap.size := by
      have := hgrow.size; simp at this; simp [World.setCell]; omega
    have hne : ∀ k, k < w.heap.size + 2 → some k ≠ bo → some k ≠ u.ownBlock := fun k h1 h2 h3 => by
      rcases hub k h3.symm with h | h
      · exact h2 h.symm
      · omega
    refine ⟨(((KeepsOthers.alloc W _).trans (KeepsOthers.of_grownBy hgrow fun j o ej hj => ?_)).trans (KeepsOthers.setCell _ _ _)).from _, ?_, ⟨_, hv1.set _, ?_, ?_⟩, ?_, by omega⟩
    · rcases (hrow.alloc (.cells #[.int .i64 x.2] 3)).2 with ⟨rfl, _⟩ | ⟨g, cap, cur, rfl, _, hgb, _⟩
      · simp [Value.ownBlock] at ej
      · obtain rfl : g = j := by simpa [Value.ownBlock] using ej
        rw [hgb] at hj; cases hj; rfl
    · exact ⟨hsize, fun k hk hn => hold k (by omega) (fun e => hn (.inr e)) (hne k hk (fun e => hn (.inl e)))⟩
    · have h5 := hown'.kept (grownBy_setCell' w1 w.heap.size (.slice (some ⟨g', 0, none⟩) (S.length + pre.length + 1) cap')) (.inr (hv1.not_row (by decide) hown').symm)
      simpa [intsV, Nat.add_assoc] using h5
    · intro k e
      rcases hat with h | h
      · exact hub k (h ▸ e)
      · rw [h] at e
        simp at e
        exact .inr (by omega)
    · exact ⟨hgrow.os.trans hF.os, hgrow.tape.trans hF.tape, hgrow.output.trans hF.output, Nat.le_trans hF.size hsize, fun k hk hn => (hold k (by omega) (by omega) (hne k (by omega) hn)).trans (hF.block k hk hn)⟩
  case done =>
    rintro D ys W hD rfl ⟨⟨u, hv, hrow, hub⟩, hF, hsz3⟩ hK
    have hc := hv.cell
    gi_wp2
    refine ⟨by simp, .inl ⟨_, _, rfl, run_takeDeferred hK, ?_⟩⟩
    have hgp := grownBy_putObj' W D (.deferred none)
    refine ⟨u, by simp [results, Tryd.results29, go_sem], HP.out u _ ⟨?_, one_wid (intsV_one _)⟩ ?_ (fun k e => (hub k e).imp id (fun h => by omega))⟩
    · have h5 := ownsRow_putObj hrow (.deferred none) hK rfl
      rw [uptoB_all, uptoB_length] at h5
      rw [one_len, one_flat, intsV_len, List.length_append, List.length_reverse]
      exact h5
    · exact ⟨hgp.os.trans hF.os, hgp.tape.trans hF.tape, hgp.output.trans hF.output, Nat.le_trans hF.size hgp.size, fun k hk hn => (hgp.block k (by omega) (fun e => by simp at hD; injection e with e; omega)).trans (hF.block k hk hn)⟩
  case stop =>
    rintro D c pre W _ _ h _
    exact h.elim

theorem appendBackward_c (base : Nat) (S kids : List Int) (v : Value) (p : Option Addr) (c : Nat) (w : World) (hbase : base ≤ w.heap.size) (hown : OwnG 1 3 w base v (one (intsV S))) (hk : VAt w p (intsV kids)) (hkb : kids ≠ [] → ∀ a, p = some a → a.block < w.heap.size ∧ v.ownBlock ≠ some a.block) (hl : S.length + kids.length ≤ 1000000) :
    Calls Tryd.prog 29 #[v, .slice p kids.length c] w (PutPost base v (S ++ kids.reverse) w) :=
  callsIn_wide.1 (appendBackward_in Fence.wide 3 rfl (by omega) trivial trivial trivial base S kids v p c w hbase hown hk hkb hl)
end Go.Proofs.YtdfegmdmappefaaDoor
