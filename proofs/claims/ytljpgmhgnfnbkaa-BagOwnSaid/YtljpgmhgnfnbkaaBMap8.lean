/- Maps: Pairs. -/
import Derived.Test.YtljpgmhgnfnbkaaBMap7
import Derived.Test.YtljpgmhgnfnbkaaShelfP
import Derived.Shelf.SlSortCmp.WholeK
import Derived.Shelf.SlSortCmp.NoneTotal
namespace Go.Proofs.Ytljpgmhgnfnbkaa
open Go.RowKit Go.Maps Go.Sort Go.Shelf Mx

def encC (x : Int × Int) : List Value := [.int .i64 x.1, .int .i64 x.2]
def cmpK (x y : Int × Int) : Int := Lib.compareInt x.1 y.1

theorem ltK (x y : Int × Int) : ltOf cmpK x y = decide (x.1 < y.1) := by
  unfold ltOf cmpK Lib.compareInt
  by_cases h1 : x.1 < y.1
  · simp [h1]
  · by_cases h2 : y.1 < x.1 <;> simp [h1, h2]

theorem swoK : SWO (ltOf cmpK) where
  irrefl x := by rw [ltK]; simp
  trans x y z h1 h2 := by rw [ltK] at *; simp at *; omega
  ntrans x y z h1 h2 := by rw [ltK] at *; simp at *; omega

set_option maxHeartbeats 1000000 in
theorem pairs1_c (x y : Int × Int) (W : World) : Calls Try.prog 61 #[.agg #[.int .i64 x.1, .int .i64 x.2], .agg #[.int .i64 y.1, .int .i64 y.2]] W fun e w' => e = .returned (.int .i64 (cmpK x y)) ∧ ∃ q os', w' = grow (W.drewN q) os' := by
  have hcon := fun W' => AnyG.cmp_Compare_int Try.cmpP x.1 y.1 W'
  change ∀ W', Calls Try.prog 62 _ _ _ at hcon
  unfold cmpK
  generalize Lib.compareInt x.1 y.1 = r at hcon ⊢
  go_enter Try.func61, Try.ntmps61
  go_wp2_with (go_at_call 62; refine (hcon _).mono ?_; rintro e w' ⟨rfl, rfl⟩)
  go_ret
  exact ⟨rfl, 0, _, by rw [alloc_eq_grow, alloc_eq_grow, grow_grow]; rfl⟩

theorem flat_cells (l : List (Int × Int)) : (flatK encC 2 l.toArray).toList = cellsP l := by
  apply List.ext_getElem?
  intro t
  have hs : (flatK encC 2 l.toArray).size = l.length * 2 := by simp
  by_cases ht : t < l.length * 2
  · obtain ⟨i, hi⟩ : ∃ i, t = i * 2 ∨ t = i * 2 + 1 := ⟨t / 2, by omega⟩
    obtain ⟨g1, g2⟩ := cellsP_get l i (by omega)
    have hg := get_flatK encC 2 l.toArray t (by simpa using ht)
    have hx : (l.toArray)[t / 2]! = l.getD i (0, 0) := by
      have : t / 2 = i := by omega
      rw [this]
      have hil : i < l.length := by omega
      simp [hil]
    rw [hx] at hg
    have he : (flatK encC 2 l.toArray).toList[t]? = some ((flatK encC 2 l.toArray)[t]!) := by
      rw [Array.getElem?_toList, getElem!_pos _ t (by rw [hs]; exact ht), Array.getElem?_eq_getElem (by rw [hs]; exact ht)]
    rw [he, hg]
    rcases hi with rfl | rfl
    · rw [g1, show i * 2 % 2 = 0 by omega]; rfl
    · rw [g2, show (i * 2 + 1) % 2 = 1 by omega]; rfl
  · rw [List.getElem?_eq_none (by rw [Array.length_toList, hs]; omega), List.getElem?_eq_none (by rw [cellsP_len]; omega)]

theorem holds_pairs {w : World} {g : Nat} {cur : Array Value} {e : TypeId} {ss : List (Int × Int)} (hb : w.heap[g]? = some (.cells cur e (0, 0))) (ht : cur.toList.take (ss.length * 2) = cellsP ss) : HoldsK encC 2 w g 0 ss.toArray := by
  intro j hj
  have hj' : j < ss.length * 2 := by simpa using hj
  refine ⟨?_, by simp [World.frozen?, hb]⟩
  have h1 : (cur.toList.take (ss.length * 2))[j]? = (flatK encC 2 ss.toArray).toList[j]? := by rw [ht, flat_cells]
  rw [List.getElem?_take_of_lt hj', Array.getElem?_toList, Array.getElem?_toList] at h1
  simp only [World.cell?, hb, Nat.zero_add]
  simp only [Option.isSome_none, Bool.false_eq_true, if_false]
  rw [h1, Array.getElem?_eq_getElem hj, getElem!_pos _ j hj]
  rfl

theorem heap_sortedP {w : World} {g n : Nat} {os : Array Obj} {cur : Array Value} {e : TypeId} {fr : Nat × Nat} (d : Array (Int × Int)) (hb : w.heap[g]? = some (.cells cur e fr)) :
    (sortWorldK encC 2 w g 0 n d os).heap[g]? = some (.cells (putCells id 0 (flatK encC 2 d) cur) e fr) := by
  have hg : g < w.heap.size := (Array.getElem?_eq_some_iff.1 hb).1
  unfold sortWorldK putRowK
  rw [heap_grow_old _ _ (by simpa using hg)]
  simp [putRow, mapBlock, Sort.ahead, Array.getElem?_modify, hb, onCells]

theorem grownBy_sortedP {w : World} {g n : Nat} {os : Array Obj} (d : Array (Int × Int)) : w.grownBy (sortWorldK encC 2 w g 0 n d os) (some g) := by
  unfold sortWorldK putRowK
  refine ⟨rfl, rfl, rfl, by simp, fun k hk hne => ?_⟩
  rw [heap_grow_old _ _ (by simpa using hk)]
  have : g ≠ k := fun e => hne (by rw [e])
  simp [putRow, mapBlock, Sort.ahead, Array.getElem?_modify, this]

theorem take_putP (cur : Array Value) (ts : List (Int × Int)) (h : ts.length * 2 ≤ cur.size) : (putCells id 0 (flatK encC 2 ts.toArray) cur).toList.take (ts.length * 2) = cellsP ts := by
  rw [← flat_cells]
  apply List.ext_getElem?
  intro j
  by_cases hj : j < ts.length * 2
  · rw [List.getElem?_take_of_lt hj, Array.getElem?_toList, Array.getElem?_toList]
    simp [putCells, hj, show j < cur.size by omega]
  · rw [List.getElem?_take_eq_none (by omega), List.getElem?_eq_none (by simp; omega)]

theorem sorted_pairs {l ss : List (Int × Int)} (hr : Rising l) (hp : ss.Perm l) {d : Array (Int × Int)} (h1 : PermIn 0 ss.length ss.toArray d) (h2 : SortedIn (ltOf cmpK) 0 ss.length d) : d = l.toArray := by
  obtain ⟨hs, -, hpm⟩ := h1
  have hs' : d.size = ss.length := by simpa using hs
  have e1 : d.extract 0 ss.length = d := by rw [← hs']; simp
  have e2 : (ss.toArray).extract 0 ss.length = ss.toArray := by simp
  rw [e1, e2] at hpm
  have hdl : d.toList.Perm l := hpm.trans (by simpa using hp)
  have hsort : d.toList.Pairwise (fun a b => a.1 ≤ b.1) := by
    rw [List.pairwise_iff_getElem]
    intro i j hi hj hij
    have hi' : i < d.size := by simpa using hi
    have hj' : j < d.size := by simpa using hj
    have := h2 i j (Nat.zero_le _) hij (by omega)
    rw [ltK, getElem!_pos d j hj', getElem!_pos d i hi'] at this
    simp at this
    simpa using this
  have hl : l.Pairwise (fun a b => a.1 ≤ b.1) := List.Pairwise.imp (fun {a b} hab => by omega) hr
  have : d.toList = l := List.Perm.eq_of_pairwise (fun a b ha hb hab hba => rising_inj hr (hdl.mem_iff.1 ha) hb (by omega)) hsort hl hdl
  rw [← this]

set_option maxHeartbeats 1000000 in
theorem sortRow_c {w : World} {base : Nat} {v : Value} {l ss : List (Int × Int)} (hr : Rising l) (hp : ss.Perm l) (hlen : ss.length ≤ 1000000) (hrow : w.ownsRow base 60 2 v ss.length (cellsP ss)) :
    Calls Try.prog 80 #[v, .func (.func 61) #[] #[]] w fun e w' => e = .returned (.tuple #[]) ∧ w'.ownsRow base 60 2 v l.length (cellsP l) ∧ w.grownBy w' v.ownBlock := by
  rcases hrow.2 with ⟨rfl, hz⟩ | ⟨g, cap, cur, rfl, hbase, hgb, r1, r2, r3, r4⟩
  · have hcon := AnyF.slices_SortFunc_none Try.sortP none 0 (.func (.func 61) #[] #[]) w
    change Calls Try.prog 80 _ _ _ at hcon
    refine hcon.mono ?_
    rintro e w' ⟨rfl, rfl⟩
    have hss : ss = [] := List.eq_nil_of_length_eq_zero hz
    subst hss
    have hl : l = [] := List.eq_nil_of_length_eq_zero (by have := hp.length_eq; simpa using this.symm)
    subst hl
    exact ⟨rfl, hrow, gb_refl _ _⟩
  · have eg : ∀ args w, (callFunc 61 args).run Try.prog w = .ok (.enter 61 args) w := enters_of Try.func61 (by kernel_rfl) rfl
    have hcmp : CmpLays Try.prog 61 #[] encC 2 cmpK g 0 ss.toArray.size w := fun _ _ _ _ x y => pairs1_c x y _
    have hcon := AnyQ.slices_SortFunc Try.sortP 2 Try.isAgg60 Try.sizeOf60 encC (fun _ => rfl) (fun x v hv => by simp [encC] at hv; rcases hv with rfl | rfl <;> rfl) cmpK swoK 61 #[] g 0 cap ss.toArray w eg hcmp (holds_pairs hgb r4) (Array.getElem?_eq_some_iff.1 hgb).1 (by simp; omega)
    change Calls Try.prog 80 _ _ _ at hcon
    refine hcon.mono ?_
    rintro e w' ⟨rfl, d', n, os, h1, h2, rfl⟩
    have hd := sorted_pairs hr hp (by simpa using h1) (by simpa using h2)
    subst hd
    have hll : l.length = ss.length := hp.length_eq.symm
    refine ⟨rfl, ⟨by rw [cellsP_len], .inr ⟨g, cap, _, by rw [hll], hbase, heap_sortedP _ hgb, by rw [hll]; exact r1, r2, by simp [putCells, r3], take_putP cur l (by rw [hll, r3]; omega)⟩⟩, grownBy_sortedP _⟩

set_option maxHeartbeats 1000000 in
theorem sortedFuncP (n : Nat) (hn : 4 ≤ n) (g : Nat) (lb : Array Value) (eg : ∀ args w, (callFunc g args).run Try.prog w = .ok (.enter g args) w) (l : List (Int × Int)) (hr : Rising l) (hl : l.length ≤ 1000000) (w : World)
    (hseq : SeqGives Fence.wide (n - 1 - 1 - 1) Try.prog g lb encP (fun ss => ss.Perm l) l.length w) :
    CallsIn Fence.wide n Try.prog 59 #[.func (.func g) #[] lb, .func (.func 61) #[] #[]] w fun e w' => ∃ v, e = .returned v ∧ w'.ownsRow w.heap.size 60 2 v l.length (cellsP l) ∧ Below w.heap.size w w' := by
  have h1 : 1 ≤ n := by omega
  have HSR := Lib.hid (fun (W : World) (v : Value) ss (hp : List.Perm ss l) (hrow : W.ownsRow w.heap.size 60 2 v ss.length (cellsP ss)) => sortRow_c hr hp (by have := hp.length_eq; omega) hrow)
  have HL := Lib.hid hl
  have hN : l.length ≤ maxLen := by unfold maxLen; omega
  have hNb : l.length * 16 ≤ 140737488355328 := by omega
  have cC := collectP Fence.wide (n - 1) trivial trivial rfl (by omega) g lb trivial eg _ _ hN hNb w hseq
  have HCC := Lib.hid cC
  have hfC : Fence.wide.fn 79 := trivial
  have hfS : Fence.wide.fn 80 := trivial
  clear cC hseq hN hNb hl hr
  refine callsIn_of_wp Try.func59 rfl trivial ?_ rfl
  simp only [Try.ntmps59, List.size_toArray, List.length_cons, List.length_nil, Nat.reduceAdd, Nat.reduceSub, Array.replicate_succ, Array.replicate_zero, List.push_toArray, List.append_toArray, List.nil_append, List.cons_append]
  gi_wp2_with (first
    | (gi_at_call 79; refine HCC.out.mono ?_; rintro e w1 ⟨v, ss, rfl, hS, hrow, hnil, hb⟩)
    | (gi_at_call 80; refine (callsIn_wide.2 (HSR.out _ _ _ hS hrow)).mono ?_; rintro e w2 ⟨rfl, hrow2, hg2⟩))
  go_ret
  refine ⟨_, rfl, hrow2, hb.grown hg2 hb.size (fun j hj => ?_)⟩
  exact (hrow.lt j hj).1

def MPairsPost (l : List (Int × Int)) (w : World) (e : Ending) (w' : World) : Prop :=
  ∃ p c, e = .returned (.slice p l.length c) ∧ w'.ownsRow w.heap.size 60 2 (.slice p l.length c) l.length (cellsP l) ∧ w.grownBy w' none

set_option maxHeartbeats 1000000 in
theorem MPairs_c {w : World} {q b nn : Nat} {l : List (Int × Int)} (hl : l.length ≤ 1000000) (h : MapAt w q b nn l) : Calls Try.prog 32 #[.pointer (some ⟨q, 0, none⟩)] w (MPairsPost l w) := by
  refine (callsIn_wide (n := 6)).1 ?_
  have x0 := cell1 h.box
  have hown := h.own
  have hasc := h.asc
  have hbl := hown.lt
  have hseq : SeqGives Fence.wide 2 Try.prog 81 #[.pointer (some ⟨w.heap.size, 0, none⟩)] encP (fun ss => ss.Perm l) l.length (w.alloc (.cells #[.map (some b)] 88)) :=
    vals_gives Fence.wide 2 trivial rfl (by omega) w.heap.size b nn l hasc _ (by simp) (by simp) (by
      obtain ⟨es, clock, hb, Ft, hs, hD⟩ := hown
      exact ⟨es, clock, (Below.heap_alloc _ _ b hbl).trans hb, Ft, hs, hD⟩)
  have cK : ∀ mb W, CallsIn Fence.wide 5 Try.prog 60 #[.map mb] W fun e w' => e = .returned (.func (.func 81) #[] #[.pointer (some ⟨W.heap.size, 0, none⟩)]) ∧ w' = W.alloc (.cells #[.map mb] 88) := fun mb W => vals_in Fence.wide 5 trivial rfl mb W
  have cS := sortedFuncP 5 (by omega) 81 #[.pointer (some ⟨w.heap.size, 0, none⟩)] (enters_of Try.func81 (by kernel_rfl) rfl) l hasc hl _ hseq
  have HCS := Lib.hid cS
  have hfK : Fence.wide.fn 60 := trivial
  have hfS : Fence.wide.fn 59 := trivial
  clear h hown hbl hseq cS hasc
  refine callsIn_of_wp Try.func32 rfl trivial ?_ rfl
  simp only [Try.ntmps32, List.size_toArray, List.length_cons, List.length_nil, Nat.reduceAdd, Nat.reduceSub, Array.replicate_succ, Array.replicate_zero, List.push_toArray, List.append_toArray, List.nil_append, List.cons_append]
  gi_wp2_with (first
    | (gi_at_call 60; refine (cK _ _).mono ?_; rintro e w' ⟨rfl, rfl⟩)
    | (gi_at_call 59; refine HCS.out.mono ?_; rintro e w' ⟨v, rfl, hrow, hb⟩))
  go_ret
  have hrow2 := ownsRow_base_a (base' := w.heap.size) hrow (by simp)
  have hv : ∃ p c, v = .slice p l.length c := by
    rcases hrow2.2 with ⟨rfl, h0⟩ | ⟨g, cap, cur, rfl, _⟩
    · rw [h0]; exact ⟨_, _, rfl⟩
    · exact ⟨_, _, rfl⟩
  obtain ⟨p, c, rfl⟩ := hv
  exact ⟨p, c, rfl, hrow2, below_gb (((Below.refl _ w).alloc (Nat.le_refl _) _).trans (hb.mono (by simp)))⟩
end Go.Proofs.Ytljpgmhgnfnbkaa
