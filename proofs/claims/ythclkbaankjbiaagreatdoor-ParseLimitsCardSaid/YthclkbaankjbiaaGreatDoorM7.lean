/- Trees gone through with a list of what is still to be seen: what is left of it; the flat tree; the tree of the example. -/
import Derived.Test.YthclkbaankjbiaaGreatDoorM3
import Derived.RangeFuncNested
import Derived.RangeFuncBound
import Derived.RangeFuncCalls
import Derived.RangeFuncLeaves
import Derived.Shelf.Abstract
import Derived.Shelf.RegionOpen
import Derived.WalkKit
import Derived.OwnWalkIn
import Derived.TacticsInMore
import Derived.LoopNIn
import Derived.LoopIn
import Derived.Maps.OwnIn
import Derived.Test.YthclkbaankjbiaaGreatDoorM6
namespace Go.Proofs.YthclkbaankjbiaaGreatDoor

/-! ### Leaves -/

def restL (N : List Nd) (S : List Int) : List Int := S.reverse.flatMap fun k => lv N k.toNat
def szL (N : List Nd) (S : List Int) : Nat := (S.map fun k => sz N k.toNat).sum

theorem restL_pop (N : List Nd) (S : List Int) (k : Int) : restL N (S ++ [k]) = lv N k.toNat ++ restL N S := by
  unfold restL; simp
theorem restL_push (N : List Nd) (S kids : List Int) : restL N (S ++ kids.reverse) = (kids.flatMap fun k => lv N k.toNat) ++ restL N S := by
  unfold restL; simp
theorem szL_append (N : List Nd) (S R : List Int) : szL N (S ++ R) = szL N S + szL N R := by
  unfold szL; simp
theorem szL_one (N : List Nd) (k : Int) : szL N [k] = sz N k.toNat := by unfold szL; simp
theorem szL_rev (N : List Nd) (l : List Int) : szL N l.reverse = szL N l := by
  unfold szL
  induction l with
  | nil => rfl
  | cons a l ih => rw [List.reverse_cons, List.map_append, List.sum_append, ih, List.map_cons, List.sum_cons]; simp; omega
theorem szL_len {N : List Nd} (hN : KidsAhead N) {S : List Int} (h : ∀ k ∈ S, 0 ≤ k ∧ k < (N.length : Int)) : S.length ≤ szL N S := by
  unfold szL
  induction S with
  | nil => simp
  | cons a S ih =>
    have h0 := h a List.mem_cons_self
    have h1 := ih fun k hk => h k (List.mem_cons_of_mem _ hk)
    obtain ⟨y, hy⟩ : ∃ y, N[a.toNat]? = some y := ⟨N[a.toNat]'(by omega), List.getElem?_eq_getElem _⟩
    have h3 := sz_eq hN hy
    simp only [List.length_cons, List.map_cons, List.sum_cons]
    omega

theorem leaf_step {m : Nat} {N : List Nd} (h : Forms m N) {S : List Int} {k : Int} {x : Nd} (hx : N[k.toNat]? = some x) (hk : x.kind = 19) : restL N (S ++ [k]) = x.tok :: restL N S ∧ x.kids = [] ∧ szL N (S ++ [k]) = szL N S + 1 := by
  have hN := h.ahead
  have h1 := ((h.2.1 _ _ hx).2.2.1 hk).1
  refine ⟨?_, h1, ?_⟩
  · rw [restL_pop, lv_eq hN hx, if_pos hk]; rfl
  · rw [szL_append, szL_one, sz_eq hN hx, h1]; simp
theorem node_step {m : Nat} {N : List Nd} (h : Forms m N) {S : List Int} {k : Int} {x : Nd} (hx : N[k.toNat]? = some x) (hk : x.kind ≠ 19) : restL N (S ++ [k]) = restL N (S ++ x.kids.reverse) ∧ szL N (S ++ [k]) = szL N (S ++ x.kids.reverse) + 1 := by
  have hN := h.ahead
  refine ⟨?_, ?_⟩
  · rw [restL_pop, restL_push, lv_eq hN hx, if_neg hk]
  · rw [szL_append, szL_append, szL_one, szL_rev, sz_eq hN hx]; unfold szL; omega
theorem kids_in {m : Nat} {N : List Nd} (h : Forms m N) {n : Nat} {x : Nd} (hx : N[n]? = some x) : ∀ k ∈ x.kids.reverse, 0 ≤ k ∧ k < (n : Int) := fun k hk => h.ahead n x hx k (List.mem_reverse.1 hk)

/-! ### Dumps -/

def pieceD (T : List TokI) (N : List Nd) (n : Nat) (k : Int) : List UInt8 := if k = -1 then [41] else (if k = (n : Int) then [] else [32]) ++ dp T N k.toNat
def restD (T : List TokI) (N : List Nd) (n : Nat) (S : List Int) : List UInt8 := S.reverse.flatMap (pieceD T N n)
def szD (N : List Nd) (S : List Int) : Nat := (S.map fun k => if k = -1 then 1 else 2 * sz N k.toNat).sum
def openD (T : List TokI) (x : Nd) : List UInt8 := if x.kind = 19 then tokL T x.tok else [40] ++ digL x.kind

theorem restD_append (T : List TokI) (N : List Nd) (n : Nat) (S R : List Int) : restD T N n (S ++ R) = restD T N n R ++ restD T N n S := by unfold restD; simp
theorem restD_one (T : List TokI) (N : List Nd) (n : Nat) (k : Int) : restD T N n [k] = pieceD T N n k := by unfold restD; simp
theorem restD_rev (T : List TokI) (N : List Nd) (n : Nat) (l : List Int) : restD T N n l.reverse = l.flatMap (pieceD T N n) := by unfold restD; simp
theorem szD_append (N : List Nd) (S R : List Int) : szD N (S ++ R) = szD N S + szD N R := by unfold szD; simp
theorem szD_kids {N : List Nd} (l : List Int) (h : ∀ k ∈ l, 0 ≤ k) : szD N l.reverse = 2 * (l.map fun k => sz N k.toNat).sum := by
  unfold szD
  induction l with
  | nil => rfl
  | cons a l ih =>
    have h0 := h a List.mem_cons_self
    rw [List.reverse_cons, List.map_append, List.sum_append, ih fun k hk => h k (List.mem_cons_of_mem _ hk), List.map_cons, List.sum_cons]
    simp only [List.map_cons, List.map_nil, List.sum_cons, List.sum_nil]
    rw [if_neg (by omega)]; omega

theorem dump_close (T : List TokI) (N : List Nd) (n : Nat) (S : List Int) : restD T N n (S ++ [-1]) = 41 :: restD T N n S ∧ szD N (S ++ [-1]) = szD N S + 1 := by
  refine ⟨?_, ?_⟩
  · rw [restD_append, restD_one]; rfl
  · rw [szD_append]; rfl
theorem dump_leaf {m : Nat} {T : List TokI} {N : List Nd} (h : Forms m N) {n : Nat} {S : List Int} {k : Int} (h0 : 0 ≤ k) {x : Nd} (hx : N[k.toNat]? = some x) (hk : x.kind = 19) : restD T N n (S ++ [k]) = (if k = (n : Int) then [] else [32]) ++ openD T x ++ restD T N n S ∧ szD N S + 1 ≤ szD N (S ++ [k]) := by
  have hN := h.ahead
  refine ⟨?_, ?_⟩
  · rw [restD_append, restD_one]; unfold pieceD openD; rw [if_neg (by omega), dp_eq hN hx, if_pos hk, if_pos hk]
  · rw [szD_append]
    have h1 := sz_eq hN hx
    unfold szD
    simp only [List.map_cons, List.map_nil, List.sum_cons, List.sum_nil]
    rw [if_neg (by omega)]; omega
theorem dump_node {m : Nat} {T : List TokI} {N : List Nd} (h : Forms m N) {n : Nat} {S : List Int} {k : Int} (h0 : 0 ≤ k) (hkn : k ≤ (n : Int)) {x : Nd} (hx : N[k.toNat]? = some x) (hk : x.kind ≠ 19) : restD T N n (S ++ [k]) = (if k = (n : Int) then [] else [32]) ++ openD T x ++ restD T N n (S ++ [-1] ++ x.kids.reverse) ∧ szD N (S ++ [-1] ++ x.kids.reverse) + 1 ≤ szD N (S ++ [k]) := by
  have hN := h.ahead
  have hkd := hN _ x hx
  refine ⟨?_, ?_⟩
  · rw [restD_append, restD_append, restD_append, restD_one, restD_one, restD_rev]
    have h1 : x.kids.flatMap (pieceD T N n) = x.kids.flatMap fun k => 32 :: dp T N k.toNat := flatMap_cong fun j hj => by
      have := hkd j hj
      unfold pieceD; rw [if_neg (by omega), if_neg (by omega)]; rfl
    rw [h1]
    have h2 : pieceD T N n (-1) = [41] := rfl
    rw [h2]
    unfold pieceD openD
    rw [if_neg (by omega), dp_eq hN hx, if_neg hk, if_neg hk]
    simp
  · rw [szD_append, szD_append, szD_append, szD_kids x.kids fun j hj => (hkd j hj).1]
    have h1 := sz_eq hN hx
    unfold szD
    simp only [List.map_cons, List.map_nil, List.sum_cons, List.sum_nil]
    rw [if_pos trivial, if_neg (show ¬ k = -1 by omega)]; omega

/-! ### Kids, each once -/

theorem kid_new {m : Nat} {N : List Nd} (h : Forms m N) {P R : List Int} {k : Int} (hs : P ++ k :: R = allKids N) : k ∉ P ∧ 0 ≤ k ∧ k < (N.length : Int) := by
  have hk : k ∈ allKids N := by rw [← hs]; simp
  have hk0 := hk
  unfold allKids at hk
  obtain ⟨x, hx, hk⟩ := List.mem_flatMap.1 hk
  obtain ⟨i, hi⟩ := List.getElem?_of_mem hx
  have h1 := h.ahead i x hi k hk
  have h2 := (List.getElem?_eq_some_iff.1 hi).1
  have h3 := h.2.2 k.toNat (by omega)
  unfold times at h3
  rw [Int.toNat_of_nonneg h1.1, ← hs, List.count_append, List.count_cons_self] at h3
  exact ⟨List.count_eq_zero.1 (by omega), by omega, by omega⟩
theorem kid_each {m : Nat} {N : List Nd} (h : Forms m N) {j : Nat} (hj : j + 1 < N.length) : (j : Int) ∈ allKids N := by
  have := h.2.2 j hj
  unfold times at this
  exact List.count_pos_iff.1 (by omega)
theorem kids_split {N : List Nd} {i : Nat} {x : Nd} (hx : N[i]? = some x) (j : Nat) (hj : j ≤ x.kids.length) : allKids (N.take i) ++ x.kids.take j ++ (x.kids.drop j ++ allKids (N.drop (i + 1))) = allKids N := by
  have h1 : N = N.take i ++ x :: N.drop (i + 1) := by
    obtain ⟨hi, rfl⟩ := List.getElem?_eq_some_iff.1 hx
    rw [← List.drop_eq_getElem_cons hi, List.take_append_drop]
  conv => rhs; rw [h1]
  unfold allKids
  rw [List.flatMap_append, List.flatMap_cons, List.append_assoc, ← List.append_assoc (x.kids.take j), List.take_append_drop]
theorem kids_done {N : List Nd} {i : Nat} {x : Nd} (hx : N[i]? = some x) : allKids (N.take (i + 1)) = allKids (N.take i) ++ x.kids := by
  rw [List.take_add_one, hx]; unfold allKids; rw [List.flatMap_append]; simp

/-! ### The flat tree -/

def rangeI (n : Nat) : List Int := (List.range n).map fun (i : Nat) => (i : Int)
def leafN (i : Nat) : Nd := ⟨19, (i : Int), []⟩
def leavesN (n : Nat) : List Nd := (List.range n).map leafN
def flatN (n : Nat) (kind : Int) : List Nd := leavesN n ++ [⟨kind, -1, rangeI n⟩]

theorem leavesN_get {n i : Nat} (h : i < n) : (leavesN n)[i]? = some (leafN i) := by unfold leavesN; simp [h]
theorem leavesN_len (n : Nat) : (leavesN n).length = n := by unfold leavesN; simp
theorem leavesN_succ (n : Nat) : leavesN (n + 1) = leavesN n ++ [leafN n] := by unfold leavesN; rw [List.range_succ]; simp
theorem rangeI_len (n : Nat) : (rangeI n).length = n := by unfold rangeI; simp
theorem rangeI_succ (n : Nat) : rangeI (n + 1) = rangeI n ++ [(n : Int)] := by unfold rangeI; rw [List.range_succ]; simp
theorem rangeI_mem {n : Nat} {k : Int} (h : k ∈ rangeI n) : 0 ≤ k ∧ k < (n : Int) := by
  unfold rangeI at h
  obtain ⟨i, hi, rfl⟩ := List.mem_map.1 h
  have := List.mem_range.1 hi
  omega
theorem flatN_len (n : Nat) (k : Int) : (flatN n k).length = n + 1 := by unfold flatN; simp [leavesN_len]
theorem flatN_leaf {n i : Nat} (k : Int) (h : i < n) : (flatN n k)[i]? = some (leafN i) := by
  unfold flatN; rw [List.getElem?_append_left (by rw [leavesN_len]; exact h)]; exact leavesN_get h
theorem flatN_root (n : Nat) (k : Int) : (flatN n k)[n]? = some ⟨k, -1, rangeI n⟩ := by
  unfold flatN; rw [List.getElem?_append_right (by rw [leavesN_len]; exact Nat.le_refl _), leavesN_len]; simp
theorem flatN_get {n i : Nat} {k : Int} {x : Nd} (h : (flatN n k)[i]? = some x) : (i < n ∧ x = leafN i) ∨ (i = n ∧ x = ⟨k, -1, rangeI n⟩) := by
  have h1 := (List.getElem?_eq_some_iff.1 h).1
  rw [flatN_len] at h1
  by_cases hi : i < n
  · rw [flatN_leaf k hi] at h; exact .inl ⟨hi, (Option.some.inj h).symm⟩
  · obtain rfl : i = n := by omega
    rw [flatN_root] at h; exact .inr ⟨rfl, (Option.some.inj h).symm⟩
theorem rangeI_count : ∀ {n j : Nat}, j < n → (rangeI n).count (j : Int) = 1 := by
  intro n
  induction n with
  | zero => intro j h; omega
  | succ n ih =>
    intro j h
    rw [rangeI_succ, List.count_append]
    by_cases hj : j < n
    · rw [ih hj, List.count_singleton, if_neg (by simp; omega)]
    · obtain rfl : j = n := by omega
      rw [List.count_eq_zero.2 (fun h => by have := rangeI_mem h; omega)]
      simp
theorem flatN_kids (n : Nat) (k : Int) : allKids (flatN n k) = rangeI n := by
  unfold allKids flatN
  rw [List.flatMap_append]
  have : (leavesN n).flatMap (·.kids) = [] := by
    unfold leavesN
    rw [List.flatMap_map]
    simp [leafN]
  rw [this]; simp
theorem flatN_forms {n : Nat} {k : Int} (h1 : 1 ≤ k) (h2 : k ≤ 18) : Forms n (flatN n k) := by
  refine ⟨by unfold flatN; simp, fun i x hx => ?_, fun j hj => ?_⟩
  · rcases flatN_get hx with ⟨hi, rfl⟩ | ⟨rfl, rfl⟩
    · refine ⟨by show (1 : Int) ≤ 19; omega, by show (19 : Int) ≤ 19; omega, fun _ => ⟨rfl, by show (0 : Int) ≤ (i : Int); omega, by show (i : Int) < n; omega⟩, fun h => absurd rfl h, fun k hk => by simp [leafN] at hk⟩
    · refine ⟨h1, by show k ≤ 19; omega, fun h => by have : k = 19 := h; omega, fun _ => rfl, fun j hj => rangeI_mem hj⟩
  · rw [flatN_len] at hj
    unfold times; rw [flatN_kids]; exact rangeI_count (by omega)
theorem flatMap_single {α : Type} (l : List α) (f : α → List α) (h : ∀ x ∈ l, f x = [x]) : l.flatMap f = l := by
  induction l with
  | nil => rfl
  | cons a l ih => rw [List.flatMap_cons, h a List.mem_cons_self, ih fun x hx => h x (List.mem_cons_of_mem _ hx)]; rfl
theorem flatN_lv {n : Nat} {k : Int} (h1 : 1 ≤ k) (h2 : k ≤ 18) : lv (flatN n k) n = rangeI n := by
  have hN := (flatN_forms (n := n) h1 h2).ahead
  rw [lv_eq hN (flatN_root n k), if_neg (by show ¬ k = 19; omega)]
  refine flatMap_single _ _ fun j hj => ?_
  have := rangeI_mem hj
  have hl := flatN_leaf (n := n) k (i := j.toNat) (by omega)
  rw [lv_eq hN hl, if_pos (show (leafN j.toNat).kind = 19 from rfl)]
  show [((j.toNat : Nat) : Int)] = [j]
  rw [Int.toNat_of_nonneg this.1]
theorem flatN_right {n : Nat} {k : Int} (h1 : 1 ≤ k) (h2 : k ≤ 18) : rightT n (flatN n k) :=
  ⟨flatN_forms h1 h2, by rw [flatN_len, Nat.add_sub_cancel, flatN_lv h1 h2]; rfl⟩

/-! ### The tree of the example -/

def exN : List Nd := [⟨19, 0, []⟩, ⟨14, -1, [0]⟩, ⟨19, 1, []⟩, ⟨18, -1, [1, 2]⟩]
def exT : List TokI := [⟨1, [], [120], 0⟩, ⟨5, [], [], 1⟩]
theorem exN_get {i : Nat} {x : Nd} (h : exN[i]? = some x) : (i = 0 ∧ x = ⟨19, 0, []⟩) ∨ (i = 1 ∧ x = ⟨14, -1, [0]⟩) ∨ (i = 2 ∧ x = ⟨19, 1, []⟩) ∨ (i = 3 ∧ x = ⟨18, -1, [1, 2]⟩) := by
  match i, h with
  | 0, h => exact .inl ⟨rfl, (Option.some.inj h).symm⟩
  | 1, h => exact .inr (.inl ⟨rfl, (Option.some.inj h).symm⟩)
  | 2, h => exact .inr (.inr (.inl ⟨rfl, (Option.some.inj h).symm⟩))
  | 3, h => exact .inr (.inr (.inr ⟨rfl, (Option.some.inj h).symm⟩))
  | i + 4, h => simp [exN] at h
theorem exN_forms : Forms 2 exN := by
  refine ⟨by simp [exN], fun i x hx => ?_, fun j hj => ?_⟩
  · rcases exN_get hx with ⟨rfl, rfl⟩ | ⟨rfl, rfl⟩ | ⟨rfl, rfl⟩ | ⟨rfl, rfl⟩ <;> (unfold okNd; simp)
  · have : j < 3 := by simp [exN] at hj; omega
    match j, this with
    | 0, _ => decide
    | 1, _ => decide
    | 2, _ => decide
theorem exN_lv : lv exN 3 = [0, 1] := by decide
theorem exN_right : rightT 2 exN := ⟨exN_forms, by decide⟩
theorem exN_dp : dp exT exN 3 = [40, 49, 56, 32, 40, 49, 52, 32, 120, 41, 32, 36, 41] := by decide
end Go.Proofs.YthclkbaankjbiaaGreatDoor
namespace Go.Proofs.YthclkbaankjbiaaGreatDoor
open Go.RowKit Go.Shelf

attribute [local go_sem] Oper.semAt_some

/-- What has come when k rounds are over. -/
def uptoB (zs : List Int) (k : Nat) : List (Int × Int) := (List.range k).map fun j => (((zs.length - 1 - j : Nat) : Int), zs[zs.length - 1 - j]?.getD 0)
theorem uptoB_succ (zs : List Int) (k : Nat) : uptoB zs (k + 1) = uptoB zs k ++ [(((zs.length - 1 - k : Nat) : Int), zs[zs.length - 1 - k]?.getD 0)] := by simp [uptoB, List.range_succ]
theorem uptoB_length (zs : List Int) (k : Nat) : (uptoB zs k).length = k := by simp [uptoB]
theorem uptoB_all (zs : List Int) : (uptoB zs zs.length).map (·.2) = zs.reverse := by
  apply List.ext_getElem
  · simp [uptoB]
  · intro i h1 h2
    have h3 : i < zs.length := by simpa using h2
    simp [uptoB]
    rw [List.getElem?_eq_getElem (by omega)]; rfl

/-- What a round keeps: what lay ahead of the loop, but for some blocks. -/
structure KpS (n₀ : Nat) (S : Nat → Prop) (A B : World) : Prop where
  size : A.heap.size ≤ B.heap.size
  block : ∀ k, k < n₀ → ¬ S k → B.heap[k]? = A.heap[k]?
theorem KpS.refl (n₀ : Nat) (S : Nat → Prop) (A : World) : KpS n₀ S A A := ⟨Nat.le_refl _, fun _ _ _ => rfl⟩
theorem KpS.trans {n₀ : Nat} {S : Nat → Prop} {A B C : World} (h : KpS n₀ S A B) (k : KpS n₀ S B C) : KpS n₀ S A C := ⟨Nat.le_trans h.size k.size, fun i h1 h2 => (k.block i h1 h2).trans (h.block i h1 h2)⟩
theorem KpS.cell {n₀ : Nat} {S : Nat → Prop} {A B : World} (h : KpS n₀ S A B) {a : Addr} (h1 : a.block < n₀) (h2 : ¬ S a.block) : B.cell? a = A.cell? a := World.cell?_of_block (h.block _ h1 h2)

set_option maxRecDepth 100000 in
set_option maxHeartbeats 2000000 in
theorem back1_in (F : Fence) (n : Nat) (h7 : F.fn 89) (hro : F.round = none) (hn : 1 ≤ n) (l Bs n₀ : Nat) (S : Nat → Prop) (p : Option Addr) (cap : Nat) (zs : List Int) (hz : zs.length ≤ 1000000) (hp : zs ≠ [] → ∀ a, p = some a → a.block < n₀ ∧ ¬ S a.block) (hB : Bs < n₀ ∧ ¬ S Bs) (J Jx : List (Int × Int) → World → Prop)
    (hY : ∀ pre x W, J pre W → pre.length < zs.length → YieldAt F (n - 1) Tryz.prog l #[.int .i64 x.1, .int .i64 x.2] W fun e W' =>
      (e = .returned (.bool true) ∧ J (pre ++ [x]) W' ∧ KpS n₀ S W W') ∨ (e = .returned (.bool false) ∧ Jx (pre ++ [x]) W'))
    (W : World) (hBs : W.cell? ⟨Bs, 0, none⟩ = some (.slice p zs.length cap)) (hc : VAt W p (intsV zs)) (h0 : J [] W) :
    CallsIn F n Tryz.prog 89 #[.func (.yield l) #[] #[], .pointer (some ⟨Bs, 0, none⟩)] W fun e W' => (∃ v, e = .returned v) ∧
      ((∃ ys, ys = uptoB zs zs.length ∧ J ys W') ∨ (∃ pre, (∃ k, k ≤ zs.length ∧ pre = uptoB zs k) ∧ Jx pre W')) := by
  obtain ⟨m, hm⟩ : ∃ m, zs.length = m := ⟨_, rfl⟩
  rw [hm] at hBs hz
  have HM := Lib.hid hm
  have hw0 : IntKind.i64.wrap ((m : Int) - 1) = (m : Int) - 1 := IntWalk.i64_in _ (by omega)
  rw [hm] at hY ⊢
  clear hm
  refine callsIn_of_wp Tryz.func89 rfl h7 ?_ hro
  simp only [Tryz.ntmps89, List.size_toArray, List.length_cons, List.length_nil, Nat.reduceAdd, Nat.reduceSub, Array.replicate_succ, Array.replicate_zero, List.push_toArray, List.append_toArray, List.nil_append, List.cons_append]
  gi_wp2
  gi_loopw [3] (fun i wr => ∃ q k : Nat, q + k = m ∧ i = .int .i64 ((q : Int) - 1) ∧ J (uptoB zs k) wr ∧ KpS n₀ S W wr)
    (fun i _ => (intOf i + 1).toNat)
  case atStart => exact ⟨m, 0, by omega, rfl, h0, KpS.refl _ _ _⟩
  case round =>
    obtain ⟨q, k, hk, rfl, hJs, hnx⟩ := hrel
    by_cases hlt : 0 < q
    · obtain ⟨q', rfl⟩ : ∃ q', q = q' + 1 := ⟨q - 1, by omega⟩
      have hidx : zs.length - 1 - k = q' := by rw [HM.out]; omega
      obtain ⟨x, hx⟩ : ∃ x, zs[q']? = some x := ⟨zs[q']'(by rw [HM.out]; omega), List.getElem?_eq_getElem _⟩
      have hi : (((q' + 1 : Nat) : Int) - 1) = (q' : Int) := by omega
      rw [hi]
      obtain ⟨g, off, rfl, hgl, hcx⟩ := hc.resolve_left (fun h => by
        have := congrArg List.length h; rw [intsV_len, HM.out] at this; simp at this; omega)
      obtain ⟨hp1, hp2⟩ := hp (fun h => by rw [h] at hx; simp at hx) _ rfl
      have hcx' : wr.cell? ⟨g, off + q', none⟩ = some (.int .i64 x) := (hnx.cell (a := ⟨g, off + q', none⟩) hp1 hp2).trans (hcx q' _ (intsV_get hx))
      have hbs : wr.cell? ⟨Bs, 0, none⟩ = some (.slice (some ⟨g, off, none⟩) m cap) := (hnx.cell (a := ⟨Bs, 0, none⟩) hB.1 hB.2).trans hBs
      have HU : Hid (uptoB zs (k + 1) = uptoB zs k ++ [((q' : Int), x)]) := Lib.hid (by rw [uptoB_succ, hidx, hx]; rfl)
      obtain ⟨fn, tmps, assign, body, hy, hR⟩ := hY _ ((q' : Int), x) wr hJs (by rw [uptoB_length]; omega)
      dsimp only at hy
      have d1 : decide ((0 : Int) ≤ (q' : Int)) = true := decide_eq_true (by omega)
      have d2 : decide (q' < m) = true := decide_eq_true (by omega)
      have d2' : decide ((q' : Int) < (m : Int)) = true := decide_eq_true (by omega)
      have hw1 : IntKind.i64.wrap ((q' : Int) - 1) = (q' : Int) - 1 := IntWalk.i64_in _ (by omega)
      gi_wp2
      refine hR.mono ?_
      rintro e W3 (⟨rfl, hJ3, hk3⟩ | ⟨rfl, hJx3⟩)
      · rw [← HU.out] at hJ3
        gi_wp2
        go_roundw
        case rel => exact ⟨q', k + 1, by omega, by rfl, hJ3, hnx.trans hk3⟩
        case measure => simp [intOf] <;> omega
      · rw [← HU.out] at hJx3
        gi_wp2
        refine bodyPost_ret (results_none rfl _ _ _) rfl ?_
        exact ⟨⟨_, rfl⟩, .inr ⟨_, ⟨k + 1, by omega, rfl⟩, hJx3⟩⟩
    · obtain rfl : q = 0 := by omega
      obtain rfl : k = m := by omega
      gi_wp2
      go_end0
      exact ⟨⟨_, rfl⟩, .inl ⟨_, rfl, hJs⟩⟩

set_option maxHeartbeats 1000000 in
theorem back_in (F : Fence) (n : Nat) (h5 : F.fn 58) (hro : F.round = none) (a : Option Addr) (len cap : Nat) (w : World) :
    CallsIn F n Tryz.prog 58 #[.slice a len cap] w fun e w' => e = .returned (.func (.func 89) #[] #[.pointer (some ⟨w.heap.size, 0, none⟩)]) ∧ w' = w.alloc (.cells #[.slice a len cap] 37) := by
  refine callsIn_of_wp Tryz.func58 rfl h5 ?_ hro
  simp only [Tryz.ntmps58, List.size_toArray, List.length_cons, List.length_nil, Nat.reduceAdd, Nat.reduceSub, Array.replicate_succ, Array.replicate_zero, List.push_toArray, List.append_toArray, List.nil_append, List.cons_append]
  gi_wp2
  go_ret
  exact ⟨rfl, rfl⟩

theorem back_stops (F : Fence) (n : Nat) (h7 : F.fn 89) (hro : F.round = none) (hn : 1 ≤ n) (Bs n₀ : Nat) (S : Nat → Prop) (p : Option Addr) (cap : Nat) (zs : List Int) (hz : zs.length ≤ 1000000) (w : World) (hn₀ : n₀ ≤ w.heap.size)
    (hp : zs ≠ [] → ∀ a, p = some a → a.block < n₀ ∧ ¬ S a.block) (hB : Bs < n₀ ∧ ¬ S Bs) (hBs : w.cell? ⟨Bs, 0, none⟩ = some (.slice p zs.length cap)) (hc : VAt w p (intsV zs)) :
    SeqStopsK F n Tryz.prog 89 #[.pointer (some ⟨Bs, 0, none⟩)] (fun x : Int × Int => #[Value.int .i64 x.1, Value.int .i64 x.2]) (KpS n₀ S) (fun ys => ys = uptoB zs zs.length) (fun pre => ∃ k, k ≤ zs.length ∧ pre = uptoB zs k) zs.length w := fun l J Jx W hW _ _ hY h0 =>
  back1_in F n h7 hro hn l Bs n₀ S p cap zs hz hp hB J Jx hY W ((hW.cell (p := ⟨Bs, 0, none⟩) (by have := hB.1; show Bs < _; omega)).trans hBs)
    (hc.imp id fun ⟨g, off, e, hl, hcx⟩ => ⟨g, off, e, Nat.lt_of_lt_of_le hl hW.size, fun j v hj => (hW.cell (p := ⟨g, off + j, none⟩) hl).trans (hcx j v hj)⟩) h0

/-- The new list: it owns the elder and the kids behind it; nothing else has turned. -/
def PutPost (base : Nat) (v : Value) (l : List Int) (w : World) (e : Ending) (w' : World) : Prop :=
  ∃ v', e = .returned v' ∧ OwnG 1 3 w' base v' (one (intsV l)) ∧ Fr2 (fun k => some k = v.ownBlock) w w' ∧ ∀ k, v'.ownBlock = some k → v.ownBlock = some k ∨ w.heap.size ≤ k

theorem ownFrom_fr2 {β : Type} {B : Nat} {S : Nat → Prop} {w : World} (hB : w.heap.size ≤ B) : OwnFrom B (fun (_ : β) W => Fr2 S w W) :=
  fun _ _ W' row hs hg hr => ⟨hg.os.trans hs.os, hg.tape.trans hs.tape, hg.output.trans hs.output, Nat.le_trans hs.size hg.size, fun k hk hn =>
    (hg.block k (Nat.lt_of_lt_of_le hk hs.size) (fun e => by have := (hr k e.symm).1; omega)).trans (hs.block k hk hn)⟩

theorem kpS_b {n₀ B : Nat} {S : Nat → Prop} (h : n₀ ≤ B) (W : World) (l : Nat) (o o' : Obj) (hl : B ≤ l) (hh : W.heap[l]? = some o) (_ : o.isCells = false) (_ : o.isWalk = false) : KpS n₀ S W (W.putObj l o') :=
  ⟨by simp [World.putObj], fun k hk _ => World.putObj_heap_other (by omega)⟩

set_option maxRecDepth 100000 in
set_option maxHeartbeats 4000000 in
theorem appendBackward_in (F : Fence) (n : Nat) (hro : F.round = none) (hn : 3 ≤ n) (hF1 : F.fn 31) (hF2 : F.fn 58) (hF3 : F.fn 89) (base : Nat) (S kids : List Int) (v : Value) (p : Option Addr) (c : Nat) (w : World) (hbase : base ≤ w.heap.size) (hown : OwnG 1 3 w base v (one (intsV S))) (hk : VAt w p (intsV kids)) (hkb : kids ≠ [] → ∀ a, p = some a → a.block < w.heap.size ∧ v.ownBlock ≠ some a.block) (hl : S.length + kids.length ≤ 1000000) :
    CallsIn F n Tryz.prog 31 #[v, .slice p kids.length c] w (PutPost base v (S ++ kids.reverse) w) := by
  have h1 : 1 ≤ n := by omega
  obtain ⟨i0, hi, hz0, hz1, hz2⟩ := info_parts infoI
  have hrow0 := hown.1
  rw [one_len, one_flat, intsV_len] at hrow0
  obtain ⟨p0, c0, e0, -⟩ := hown.is
  rw [one_len, intsV_len] at e0
  obtain ⟨bo, hbo⟩ : ∃ bo, v.ownBlock = bo := ⟨_, rfl⟩
  have hblt : ∀ k, bo = some k → k < w.heap.size := fun k e => (hrow0.lt k (hbo.trans e)).2
  have HP : Hid (∀ v' W', OwnG 1 3 W' base v' (one (intsV (S ++ kids.reverse))) → Fr2 (fun k => some k = bo) w W' → (∀ k, v'.ownBlock = some k → bo = some k ∨ w.heap.size ≤ k) → PutPost base v (S ++ kids.reverse) w (.returned v') W') := Lib.hid (fun v' W' h1 h2 h3 => ⟨v', rfl, h1, by rw [hbo]; exact h2, by rw [hbo]; exact h3⟩)
  rw [hbo] at hkb
  have hvb : ∀ k, v.ownBlock = some k → bo = some k ∨ w.heap.size + 2 ≤ k := fun k e => .inl (hbo.symm.trans e)
  generalize PutPost base v (S ++ kids.reverse) w = Q at HP
  clear hbo
  refine callsIn_of_wp_marks Tryz.func31 rfl hF1 ?_ hro
  simp only [Tryz.ntmps31, List.size_toArray, List.length_cons, List.length_nil, Nat.reduceAdd, Nat.reduceSub, Array.replicate_succ, Array.replicate_zero, List.push_toArray, List.append_toArray, List.nil_append, List.cons_append]
  subst e0
  gi_wp2_with (gi_at_call 58; refine (back_in F (n - 1) hF2 hro _ _ _ _).mono ?_; rintro e w' ⟨rfl, rfl⟩)
  have bO := Boxed.new w 37 (.slice p0 S.length c0)
  have bN := Boxed.new (w.alloc (.cells #[.slice p0 S.length c0] 37)) 37 (.slice p kids.length c)
  rw [World.size_alloc] at bN
  have hg1 := World.grownBy_alloc w (.cells #[.slice p0 S.length c0] 37) none
  have hg2 := World.grownBy_alloc (w.alloc (.cells #[.slice p0 S.length c0] 37)) (.cells #[.slice p kids.length c] 37) none
  have hfr : Fr2 (fun k => some k = bo) w ((w.alloc (.cells #[.slice p0 S.length c0] 37)).alloc (.cells #[.slice p kids.length c] 37)) := (Fr2.none hg1).trans (Fr2.none hg2)
  have hS0 : ∀ k, k < w.heap.size + 2 → (some k = bo ∨ k = w.heap.size) ∨ ¬ (some k = bo ∨ k = w.heap.size) := fun k _ => Classical.em _
  refine wpIn_rangeFunc_ownG hro h1 (gf := 89) (lb := #[.pointer (some ⟨w.heap.size + 1, 0, none⟩)]) rfl hF3 (enters_of Tryz.func89 (by kernel_rfl) rfl)
    (back_stops F (n - 1) hF3 hro (by omega) (w.heap.size + 1) (w.heap.size + 2) (fun k => some k = bo ∨ k = w.heap.size) p c kids (by omega) _ (by simp) (fun h a ha => ⟨by have := (hkb h a ha).1; omega, fun hh => by
      rcases hh with hh | hh
      · exact (hkb h a ha).2 hh.symm
      · have := (hkb h a ha).1; omega⟩) ⟨by omega, fun hh => by
      rcases hh with hh | hh
      · have := hblt _ hh.symm; omega
      · omega⟩ bN.cell (((hk.kept hg1).kept hg2))) KpS.trans (kpS_b (by simp)) (Below.refl _ _) (fun _ => rfl)
    (fun pre W => (∃ u, Boxed W w.heap.size 37 u ∧ W.ownsRow base 3 1 u (S.length + pre.length) (intsV (S ++ pre.map (·.2))) ∧ (∀ k, u.ownBlock = some k → bo = some k ∨ w.heap.size + 2 ≤ k)) ∧ (Fr2 (fun k => some k = bo) w W ∧ w.heap.size + 2 ≤ W.heap.size))
    (fun _ _ _ => False)
    (OwnFrom.and (Own.from (holdsRow_own base w.heap.size 37 3 1 (fun pre : List (Int × Int) => S.length + pre.length) (fun pre => intsV (S ++ pre.map (·.2))) (fun _ u => ∀ k, u.ownBlock = some k → bo = some k ∨ w.heap.size + 2 ≤ k)) _) (OwnFrom.and (ownFrom_fr2 (by simp; omega)) (fun _ _ _ _ hs hg _ => Nat.le_trans hs hg.size)))
    (fun _ _ _ _ _ hs _ _ => hs)
    ⟨⟨_, bO.alloc _, by simpa using (hrow0.alloc _).alloc _, hvb⟩, hfr, by simp⟩
    (fun x => { tmps := #[.slice p0 S.length c0, .slice p kids.length c, .pointer (some ⟨w.heap.size, 0, none⟩), undef, .slice none 0 0, undef, .int .i64 x.2, .slice p kids.length c, .func (.func 89) #[] #[.pointer (some ⟨w.heap.size + 1, 0, none⟩)], .int .i64 x.1, .int .i64 x.2, undef, undef, undef, undef, undef], defers := [] }) ?assign ?body ?done ?stop
  case assign =>
    intro l x W K hK
    gi_wp2
    exact hK
  case body =>
    rintro l pre x W ⟨⟨u, hv, hrow, hub⟩, hF, hsz3⟩ hlt
    have hc := hv.cell
    have hsz := hF.size
    have hsz2 : w.heap.size < W.heap.size := hv.lt
    gi_wp2_with (gi_at_builtin; refine wpListIn_append_own_at _ rfl _ _ 37 rfl base 3 i0 (.int .i64 0) 1 8 Tryz.underlying37 hi hz0 hz1 hz2 rfl (by decide) u _ _ rfl (hrow.alloc _) ⟨W.heap.size, 0, none⟩ 1 1 [.int .i64 x.2] rfl rfl (cell_one_new _ _ _) (by simp [Value.oneCell']) (by unfold maxLen; omega) (by omega) (by simp; omega) ?_; intro v' w1 hown' hgrow _ hat; obtain ⟨g', cap', rfl⟩ := ownsRow_succ hown'; have hv1 := (hv.alloc _).kept hgrow (hv.not_row (by decide) hrow); have hc1 := hv1.cell; have hf1 := hv1.frozen)
    have hold : ∀ k, k < W.heap.size → k ≠ w.heap.size → some k ≠ u.ownBlock → (w1.setCell ⟨w.heap.size, 0, none⟩ (.slice (some ⟨g', 0, none⟩) (S.length + pre.length + 1) cap')).heap[k]? = W.heap[k]? := fun k h1 h2 h3 => by
      rw [Below.heap_setCell _ _ _ k (by first | omega | (simp; omega)), hgrow.block k (by simp; omega) h3]
      exact Below.heap_alloc _ _ k h1
    have hsize : W.heap.size ≤ (w1.setCell ⟨w.heap.size, 0, none⟩ (.slice (some ⟨g', 0, none⟩) (S.length + pre.length + 1) cap')).heap.size := by
      have := hgrow.size; simp at this; simp [World.setCell]; omega
    have hne : ∀ k, k < w.heap.size + 2 → some k ≠ bo → some k ≠ u.ownBlock := fun k h1 h2 h3 => by
      rcases hub k h3.symm with h | h
      · exact h2 h.symm
      · omega
    refine ⟨(((KeepsOthers.alloc W _).trans (KeepsOthers.of_grownBy hgrow fun j o ej hj => ?_)).trans (KeepsOthers.setCell _ _ _)).from _, ?_, ⟨_, hv1.set _, ?_, ?_⟩, ?_, by omega⟩
    · rcases (hrow.alloc (.cells #[.int .i64 x.2] 3)).2 with ⟨rfl, _⟩ | ⟨g, cap, cur, rfl, _, hgb, _⟩
      · simp [Value.ownBlock] at ej
      · obtain rfl : g = j := by simpa [Value.ownBlock] using ej
        rw [hgb] at hj; cases hj; rfl
    · exact ⟨hsize, fun k hk hn => hold k (by omega) (fun e => hn (.inr e)) (hne k hk (fun e => hn (.inl e)))⟩
    · have h5 := hown'.kept (grownBy_setCell' w1 w.heap.size (.slice (some ⟨g', 0, none⟩) (S.length + pre.length + 1) cap')) (.inr (hv1.not_row (by decide) hown').symm)
      simpa [intsV, Nat.add_assoc] using h5
    · intro k e
      rcases hat with h | h
      · exact hub k (h ▸ e)
      · rw [h] at e
        simp at e
        exact .inr (by omega)
    · exact ⟨hgrow.os.trans hF.os, hgrow.tape.trans hF.tape, hgrow.output.trans hF.output, Nat.le_trans hF.size hsize, fun k hk hn => (hold k (by omega) (by omega) (hne k (by omega) hn)).trans (hF.block k hk hn)⟩
  case done =>
    rintro D ys W hD rfl ⟨⟨u, hv, hrow, hub⟩, hF, hsz3⟩ hK
    have hc := hv.cell
    gi_wp2
    refine ⟨by simp, .inl ⟨_, _, rfl, run_takeDeferred hK, ?_⟩⟩
    have hgp := grownBy_putObj' W D (.deferred none)
    refine ⟨u, by simp [results, Tryz.results31, go_sem], HP.out u _ ⟨?_, one_wid (intsV_one _)⟩ ?_ (fun k e => (hub k e).imp id (fun h => by omega))⟩
    · have h5 := ownsRow_putObj hrow (.deferred none) hK rfl
      rw [uptoB_all, uptoB_length] at h5
      rw [one_len, one_flat, intsV_len, List.length_append, List.length_reverse]
      exact h5
    · exact ⟨hgp.os.trans hF.os, hgp.tape.trans hF.tape, hgp.output.trans hF.output, Nat.le_trans hF.size hgp.size, fun k hk hn => (hgp.block k (by omega) (fun e => by simp at hD; injection e with e; omega)).trans (hF.block k hk hn)⟩
  case stop =>
    rintro D c pre W _ _ h _
    exact h.elim

theorem appendBackward_c (base : Nat) (S kids : List Int) (v : Value) (p : Option Addr) (c : Nat) (w : World) (hbase : base ≤ w.heap.size) (hown : OwnG 1 3 w base v (one (intsV S))) (hk : VAt w p (intsV kids)) (hkb : kids ≠ [] → ∀ a, p = some a → a.block < w.heap.size ∧ v.ownBlock ≠ some a.block) (hl : S.length + kids.length ≤ 1000000) :
    Calls Tryz.prog 31 #[v, .slice p kids.length c] w (PutPost base v (S ++ kids.reverse) w) :=
  callsIn_wide.1 (appendBackward_in Fence.wide 3 rfl (by omega) trivial trivial trivial base S kids v p c w hbase hown hk hkb hl)
end Go.Proofs.YthclkbaankjbiaaGreatDoor
