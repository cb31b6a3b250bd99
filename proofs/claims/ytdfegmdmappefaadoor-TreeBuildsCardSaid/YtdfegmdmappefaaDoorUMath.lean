/- Trees gone through with a list of what is still to be seen: what is left of it; the flat tree; the tree of the example. -/
import Derived.Test.YtdfegmdmappefaaDoorTMath
namespace Go.Proofs.YtdfegmdmappefaaDoor

/-! ### Leaves -/

def restL (N : List Nd) (S : List Int) : List Int := S.reverse.flatMap fun k => lv N k.toNat
def szL (N : List Nd) (S : List Int) : Nat := (S.map fun k => sz N k.toNat).sum

theorem restL_pop (N : List Nd) (S : List Int) (k : Int) : restL N (S ++ [k]) = lv N k.toNat ++ restL N S := by
  unfold restL; simp
theorem restL_push (N : List Nd) (S kids : List Int) : restL N (S ++ kids.reverse) = (kids.flatMap fun k => lv N k.toNat) ++ restL N S := by
  unfold restL; simp
theorem szL_append (N : List Nd) (S R : List Int) : szL N (S ++ R) = szL N S + szL N R := by
  unfold szL; simp
theorem szL_one (N : List Nd) (k : Int) : szL N [k] = sz N k.toNat := by unfold szL; simp
theorem szL_rev (N : List Nd) (l : List Int) : szL N l.reverse = szL N l := by
  unfold szL
  induction l with
  | nil => rfl
  | cons a l ih => rw [List.reverse_cons, List.map_append, List.sum_append, ih, List.map_cons, List.sum_cons]; simp; omega
theorem szL_len {N : List Nd} (hN : KidsAhead N) {S : List Int} (h : ∀ k ∈ S, 0 ≤ k ∧ k < (N.length : Int)) : S.length ≤ szL N S := by
  unfold szL
  induction S with
  | nil => simp
  | cons a S ih =>
    have h0 := h a List.mem_cons_self
    have h1 := ih fun k hk => h k (List.mem_cons_of_mem _ hk)
    obtain ⟨y, hy⟩ : ∃ y, N[a.toNat]? = some y := ⟨N[a.toNat]'(by omega), List.getElem?_eq_getElem _⟩
    have h3 := sz_eq hN hy
    simp only [List.length_cons, List.map_cons, List.sum_cons]
    omega

theorem leaf_step {m : Nat} {N : List Nd} (h : Forms m N) {S : List Int} {k : Int} {x : Nd} (hx : N[k.toNat]? = some x) (hk : x.kind = 19) : restL N (S ++ [k]) = x.tok :: restL N S ∧ x.kids = [] ∧ szL N (S ++ [k]) = szL N S + 1 := by
  have hN := h.ahead
  have h1 := ((h.2.1 _ _ hx).2.2.1 hk).1
  refine ⟨?_, h1, ?_⟩
  · rw [restL_pop, lv_eq hN hx, if_pos hk]; rfl
  · rw [szL_append, szL_one, sz_eq hN hx, h1]; simp
theorem node_step {m : Nat} {N : List Nd} (h : Forms m N) {S : List Int} {k : Int} {x : Nd} (hx : N[k.toNat]? = some x) (hk : x.kind ≠ 19) : restL N (S ++ [k]) = restL N (S ++ x.kids.reverse) ∧ szL N (S ++ [k]) = szL N (S ++ x.kids.reverse) + 1 := by
  have hN := h.ahead
  refine ⟨?_, ?_⟩
  · rw [restL_pop, restL_push, lv_eq hN hx, if_neg hk]
  · rw [szL_append, szL_append, szL_one, szL_rev, sz_eq hN hx]; unfold szL; omega
theorem kids_in {m : Nat} {N : List Nd} (h : Forms m N) {n : Nat} {x : Nd} (hx : N[n]? = some x) : ∀ k ∈ x.kids.reverse, 0 ≤ k ∧ k < (n : Int) := fun k hk => h.ahead n x hx k (List.mem_reverse.1 hk)

/-! ### Dumps -/

def pieceD (T : List TokI) (N : List Nd) (n : Nat) (k : Int) : List UInt8 := if k = -1 then [41] else (if k = (n : Int) then [] else [32]) ++ dp T N k.toNat
def restD (T : List TokI) (N : List Nd) (n : Nat) (S : List Int) : List UInt8 := S.reverse.flatMap (pieceD T N n)
def szD (N : List Nd) (S : List Int) : Nat := (S.map fun k => if k = -1 then 1 else 2 * sz N k.toNat).sum
def openD (T : List TokI) (x : Nd) : List UInt8 := if x.kind = 19 then tokL T x.tok else [40] ++ digL x.kind

theorem restD_append (T : List TokI) (N : List Nd) (n : Nat) (S R : List Int) : restD T N n (S ++ R) = restD T N n R ++ restD T N n S := by unfold restD; simp
theorem restD_one (T : List TokI) (N : List Nd) (n : Nat) (k : Int) : restD T N n [k] = pieceD T N n k := by unfold restD; simp
theorem restD_rev (T : List TokI) (N : List Nd) (n : Nat) (l : List Int) : restD T N n l.reverse = l.flatMap (pieceD T N n) := by unfold restD; simp
theorem szD_append (N : List Nd) (S R : List Int) : szD N (S ++ R) = szD N S + szD N R := by unfold szD; simp
theorem szD_kids {N : List Nd} (l : List Int) (h : ∀ k ∈ l, 0 ≤ k) : szD N l.reverse = 2 * (l.map fun k => sz N k.toNat).sum := by
  unfold szD
  induction l with
  | nil => rfl
  | cons a l ih =>
    have h0 := h a List.mem_cons_self
    rw [List.reverse_cons, List.map_append, List.sum_append, ih fun k hk => h k (List.mem_cons_of_mem _ hk), List.map_cons, List.sum_cons]
    simp only [List.map_cons, List.map_nil, List.sum_cons, List.sum_nil]
    rw [if_neg (by omega)]; omega

theorem dump_close (T : List TokI) (N : List Nd) (n : Nat) (S : List Int) : restD T N n (S ++ [-1]) = 41 :: restD T N n S ∧ szD N (S ++ [-1]) = szD N S + 1 := by
  refine ⟨?_, ?_⟩
  · rw [restD_append, restD_one]; rfl
  · rw [szD_append]; rfl
theorem dump_leaf {m : Nat} {T : List TokI} {N : List Nd} (h : Forms m N) {n : Nat} {S : List Int} {k : Int} (h0 : 0 ≤ k) {x : Nd} (hx : N[k.toNat]? = some x) (hk : x.kind = 19) : restD T N n (S ++ [k]) = (if k = (n : Int) then [] else [32]) ++ openD T x ++ restD T N n S ∧ szD N S + 1 ≤ szD N (S ++ [k]) := by
  have hN := h.ahead
  refine ⟨?_, ?_⟩
  · rw [restD_append, restD_one]; unfold pieceD openD; rw [if_neg (by omega), dp_eq hN hx, if_pos hk, if_pos hk]
  · rw [szD_append]
    have h1 := sz_eq hN hx
    unfold szD
    simp only [List.map_cons, List.map_nil, List.sum_cons, List.sum_nil]
    rw [if_neg (by omega)]; omega
theorem dump_node {m : Nat} {T : List TokI} {N : List Nd} (h : Forms m N) {n : Nat} {S : List Int} {k : Int} (h0 : 0 ≤ k) (hkn : k ≤ (n : Int)) {x : Nd} (hx : N[k.toNat]? = some x) (hk : x.kind ≠ 19) : restD T N n (S ++ [k]) = (if k = (n : Int) then [] else [32]) ++ openD T x ++ restD T N n (S ++ [-1] ++ x.kids.reverse) ∧ szD N (S ++ [-1] ++ x.kids.reverse) + 1 ≤ szD N (S ++ [k]) := by
  have hN := h.ahead
  have hkd := hN _ x hx
  refine ⟨?_, ?_⟩
  · rw [restD_append, restD_append, restD_append, restD_one, restD_one, restD_rev]
    have h1 : x.kids.flatMap (pieceD T N n) = x.kids.flatMap fun k => 32 :: dp T N k.toNat := flatMap_cong fun j hj => by
      have := hkd j hj
      unfold pieceD; rw [if_neg (by omega), if_neg (by omega)]; rfl
    rw [h1]
    have h2 : pieceD T N n (-1) = [41] := rfl
    rw [h2]
    unfold pieceD openD
    rw [if_neg (by omega), dp_eq hN hx, if_neg hk, if_neg hk]
    simp
  · rw [szD_append, szD_append, szD_append, szD_kids x.kids fun j hj => (hkd j hj).1]
    have h1 := sz_eq hN hx
    unfold szD
    simp only [List.map_cons, List.map_nil, List.sum_cons, List.sum_nil]
    rw [if_pos trivial, if_neg (show ¬ k = -1 by omega)]; omega

/-! ### Kids, each once -/

theorem kid_new {m : Nat} {N : List Nd} (h : Forms m N) {P R : List Int} {k : Int} (hs : P ++ k :: R = allKids N) : k ∉ P ∧ 0 ≤ k ∧ k < (N.length : Int) := by
  have hk : k ∈ allKids N := by rw [← hs]; simp
  have hk0 := hk
  unfold allKids at hk
  obtain ⟨x, hx, hk⟩ := List.mem_flatMap.1 hk
  obtain ⟨i, hi⟩ := List.getElem?_of_mem hx
  have h1 := h.ahead i x hi k hk
  have h2 := (List.getElem?_eq_some_iff.1 hi).1
  have h3 := h.2.2 k.toNat (by omega)
  unfold times at h3
  rw [Int.toNat_of_nonneg h1.1, ← hs, List.count_append, List.count_cons_self] at h3
  exact ⟨List.count_eq_zero.1 (by omega), by omega, by omega⟩
theorem kid_each {m : Nat} {N : List Nd} (h : Forms m N) {j : Nat} (hj : j + 1 < N.length) : (j : Int) ∈ allKids N := by
  have := h.2.2 j hj
  unfold times at this
  exact List.count_pos_iff.1 (by omega)
theorem kids_split {N : List Nd} {i : Nat} {x : Nd} (hx : N[i]? = some x) (j : Nat) (hj : j ≤ x.kids.length) : allKids (N.take i) ++ x.kids.take j ++ (x.kids.drop j ++ allKids (N.drop (i + 1))) = allKids N := by
  have h1 : N = N.take i ++ x :: N.drop (i + 1) := by
    obtain ⟨hi, rfl⟩ := List.getElem?_eq_some_iff.1 hx
    rw [← List.drop_eq_getElem_cons hi, List.take_append_drop]
  conv => rhs; rw [h1]
  unfold allKids
  rw [List.flatMap_append, List.flatMap_cons, List.append_assoc, ← List.append_assoc (x.kids.take j), List.take_append_drop]
theorem kids_done {N : List Nd} {i : Nat} {x : Nd} (hx : N[i]? = some x) : allKids (N.take (i + 1)) = allKids (N.take i) ++ x.kids := by
  rw [List.take_add_one, hx]; unfold allKids; rw [List.flatMap_append]; simp

/-! ### The flat tree -/

def rangeI (n : Nat) : List Int := (List.range n).map fun (i : Nat) => (i : Int)
def leafN (i : Nat) : Nd := ⟨19, (i : Int), []⟩
def leavesN (n : Nat) : List Nd := (List.range n).map leafN
def flatN (n : Nat) (kind : Int) : List Nd := leavesN n ++ [⟨kind, -1, rangeI n⟩]

theorem leavesN_get {n i : Nat} (h : i < n) : (leavesN n)[i]? = some (leafN i) := by unfold leavesN; simp [h]
theorem leavesN_len (n : Nat) : (leavesN n).length = n := by unfold leavesN; simp
theorem leavesN_succ (n : Nat) : leavesN (n + 1) = leavesN n ++ [leafN n] := by unfold leavesN; rw [List.range_succ]; simp
theorem rangeI_len (n : Nat) : (rangeI n).length = n := by unfold rangeI; simp
theorem rangeI_succ (n : Nat) : rangeI (n + 1) = rangeI n ++ [(n : Int)] := by unfold rangeI; rw [List.range_succ]; simp
theorem rangeI_mem {n : Nat} {k : Int} (h : k ∈ rangeI n) : 0 ≤ k ∧ k < (n : Int) := by
  unfold rangeI at h
  obtain ⟨i, hi, rfl⟩ := List.mem_map.1 h
  have := List.mem_range.1 hi
  omega
theorem flatN_len (n : Nat) (k : Int) : (flatN n k).length = n + 1 := by unfold flatN; simp [leavesN_len]
theorem flatN_leaf {n i : Nat} (k : Int) (h : i < n) : (flatN n k)[i]? = some (leafN i) := by
  unfold flatN; rw [List.getElem?_append_left (by rw [leavesN_len]; exact h)]; exact leavesN_get h
theorem flatN_root (n : Nat) (k : Int) : (flatN n k)[n]? = some ⟨k, -1, rangeI n⟩ := by
  unfold flatN; rw [List.getElem?_append_right (by rw [leavesN_len]; exact Nat.le_refl _), leavesN_len]; simp
theorem flatN_get {n i : Nat} {k : Int} {x : Nd} (h : (flatN n k)[i]? = some x) : (i < n ∧ x = leafN i) ∨ (i = n ∧ x = ⟨k, -1, rangeI n⟩) := by
  have h1 := (List.getElem?_eq_some_iff.1 h).1
  rw [flatN_len] at h1
  by_cases hi : i < n
  · rw [flatN_leaf k hi] at h; exact .inl ⟨hi, (Option.some.inj h).symm⟩
  · obtain rfl : i = n := by omega
    rw [flatN_root] at h; exact .inr ⟨rfl, (Option.some.inj h).symm⟩
theorem rangeI_count : ∀ {n j : Nat}, j < n → (rangeI n).count (j : Int) = 1 := by
  intro n
  induction n with
  | zero => intro j h; omega
  | succ n ih =>
    intro j h
    rw [rangeI_succ, List.count_append]
    by_cases hj : j < n
    · rw [ih hj, List.count_singleton, if_neg (by simp; omega)]
    · obtain rfl : j = n := by omega
      rw [List.count_eq_zero.2 (fun h => by have := rangeI_mem h; omega)]
      simp
theorem flatN_kids (n : Nat) (k : Int) : allKids (flatN n k) = rangeI n := by
  unfold allKids flatN
  rw [List.flatMap_append]
  have : (leavesN n).flatMap (·.kids) = [] := by
    unfold leavesN
    rw [List.flatMap_map]
    simp [leafN]
  rw [this]; simp
theorem flatN_forms {n : Nat} {k : Int} (h1 : 1 ≤ k) (h2 : k ≤ 18) : Forms n (flatN n k) := by
  refine ⟨by unfold flatN; simp, fun i x hx => ?_, fun j hj => ?_⟩
  · rcases flatN_get hx with ⟨hi, rfl⟩ | ⟨rfl, rfl⟩
    · refine ⟨by show (1 : Int) ≤ 19; omega, by show (19 : Int) ≤ 19; omega, fun _ => ⟨rfl, by show (0 : Int) ≤ (i : Int); omega, by show (i : Int) < n; omega⟩, fun h => absurd rfl h, fun k hk => by simp [leafN] at hk⟩
    · refine ⟨h1, by show k ≤ 19; omega, fun h => by have : k = 19 := h; omega, fun _ => rfl, fun j hj => rangeI_mem hj⟩
  · rw [flatN_len] at hj
    unfold times; rw [flatN_kids]; exact rangeI_count (by omega)
theorem flatMap_single {α : Type} (l : List α) (f : α → List α) (h : ∀ x ∈ l, f x = [x]) : l.flatMap f = l := by
  induction l with
  | nil => rfl
  | cons a l ih => rw [List.flatMap_cons, h a List.mem_cons_self, ih fun x hx => h x (List.mem_cons_of_mem _ hx)]; rfl
theorem flatN_lv {n : Nat} {k : Int} (h1 : 1 ≤ k) (h2 : k ≤ 18) : lv (flatN n k) n = rangeI n := by
  have hN := (flatN_forms (n := n) h1 h2).ahead
  rw [lv_eq hN (flatN_root n k), if_neg (by show ¬ k = 19; omega)]
  refine flatMap_single _ _ fun j hj => ?_
  have := rangeI_mem hj
  have hl := flatN_leaf (n := n) k (i := j.toNat) (by omega)
  rw [lv_eq hN hl, if_pos (show (leafN j.toNat).kind = 19 from rfl)]
  show [((j.toNat : Nat) : Int)] = [j]
  rw [Int.toNat_of_nonneg this.1]
theorem flatN_right {n : Nat} {k : Int} (h1 : 1 ≤ k) (h2 : k ≤ 18) : rightT n (flatN n k) :=
  ⟨flatN_forms h1 h2, by rw [flatN_len, Nat.add_sub_cancel, flatN_lv h1 h2]; rfl⟩

/-! ### The tree of the example -/

def exN : List Nd := [⟨19, 0, []⟩, ⟨14, -1, [0]⟩, ⟨19, 1, []⟩, ⟨18, -1, [1, 2]⟩]
def exT : List TokI := [⟨1, [], [120], 0⟩, ⟨5, [], [], 1⟩]
theorem exN_get {i : Nat} {x : Nd} (h : exN[i]? = some x) : (i = 0 ∧ x = ⟨19, 0, []⟩) ∨ (i = 1 ∧ x = ⟨14, -1, [0]⟩) ∨ (i = 2 ∧ x = ⟨19, 1, []⟩) ∨ (i = 3 ∧ x = ⟨18, -1, [1, 2]⟩) := by
  match i, h with
  | 0, h => exact .inl ⟨rfl, (Option.some.inj h).symm⟩
  | 1, h => exact .inr (.inl ⟨rfl, (Option.some.inj h).symm⟩)
  | 2, h => exact .inr (.inr (.inl ⟨rfl, (Option.some.inj h).symm⟩))
  | 3, h => exact .inr (.inr (.inr ⟨rfl, (Option.some.inj h).symm⟩))
  | i + 4, h => simp [exN] at h
theorem exN_forms : Forms 2 exN := by
  refine ⟨by simp [exN], fun i x hx => ?_, fun j hj => ?_⟩
  · rcases exN_get hx with ⟨rfl, rfl⟩ | ⟨rfl, rfl⟩ | ⟨rfl, rfl⟩ | ⟨rfl, rfl⟩ <;> (unfold okNd; simp)
  · have : j < 3 := by simp [exN] at hj; omega
    match j, this with
    | 0, _ => decide
    | 1, _ => decide
    | 2, _ => decide
theorem exN_lv : lv exN 3 = [0, 1] := by decide
theorem exN_right : rightT 2 exN := ⟨exN_forms, by decide⟩
theorem exN_dp : dp exT exN 3 = [40, 49, 56, 32, 40, 49, 52, 32, 120, 41, 32, 36, 41] := by decide
end Go.Proofs.YtdfegmdmappefaaDoor
