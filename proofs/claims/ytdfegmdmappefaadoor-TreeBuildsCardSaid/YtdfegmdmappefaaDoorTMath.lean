/- Trees of tokens, over lists: the right form; leaves, sizes and dumps by recursion on places; how many leaves there are. -/
import Derived.Test.YtdfegmdmappefaaDoorEMath
namespace Go.Proofs.YtdfegmdmappefaaDoor

structure TokI where
  kind : Int
  lead : List UInt8
  text : List UInt8
  pos : Int
structure Nd where
  kind : Int
  tok : Int
  kids : List Int

/-- Recursion on places. -/
def rc {α : Type} (d : α) (F : Nd → (Int → α) → α) (N : List Nd) : Nat → Nat → α
  | 0, _ => d
  | f + 1, n => match N[n]? with
    | none => d
    | some x => F x (fun k => rc d F N f k.toNat)
def rcw {α : Type} (d : α) (F : Nd → (Int → α) → α) (N : List Nd) (n : Nat) : α := rc d F N (n + 1) n

def KidsAhead (N : List Nd) : Prop := ∀ (i : Nat) (x : Nd), N[i]? = some x → ∀ k ∈ x.kids, 0 ≤ k ∧ k < (i : Int)

def Cong {α : Type} (F : Nd → (Int → α) → α) : Prop := ∀ x g g', (∀ k ∈ x.kids, g k = g' k) → F x g = F x g'

theorem rc_same {α : Type} {d : α} {F : Nd → (Int → α) → α} {N : List Nd} (hN : KidsAhead N) (hF : Cong F) : ∀ n f f', n < f → n < f' → rc d F N f n = rc d F N f' n := by
  intro n
  induction n using Nat.strongRecOn with
  | ind n ih =>
    intro f f' hf hf'
    match f, f', hf, hf' with
    | f + 1, f' + 1, hf, hf' =>
      unfold rc
      cases hx : N[n]? with
      | none => rfl
      | some x =>
        refine hF x _ _ fun k hk => ?_
        have := hN n x hx k hk
        exact ih k.toNat (by omega) f f' (by omega) (by omega)

theorem rcw_eq {α : Type} {d : α} {F : Nd → (Int → α) → α} {N : List Nd} (hN : KidsAhead N) (hF : Cong F) {n : Nat} {x : Nd} (hx : N[n]? = some x) : rcw d F N n = F x (fun k => rcw d F N k.toNat) := by
  unfold rcw
  rw [rc, hx]
  refine hF x _ _ fun k hk => ?_
  have := hN n x hx k hk
  exact rc_same hN hF _ _ _ (by omega) (by omega)

/-! ### Leaves, sizes, dumps -/

def lvF (x : Nd) (g : Int → List Int) : List Int := if x.kind = 19 then [x.tok] else x.kids.flatMap g
def szF (x : Nd) (g : Int → Nat) : Nat := 1 + (x.kids.map g).sum
def digL (k : Int) : List UInt8 := if k < 10 then [UInt8.ofNat (48 + k).toNat] else [UInt8.ofNat (48 + k / 10).toNat, UInt8.ofNat (48 + k % 10).toNat]
def tokL (T : List TokI) (j : Int) : List UInt8 := match T[j.toNat]? with
  | none => []
  | some t => if t.kind = 5 then 36 :: t.text else t.text
def dpF (T : List TokI) (x : Nd) (g : Int → List UInt8) : List UInt8 := if x.kind = 19 then tokL T x.tok else [40] ++ digL x.kind ++ (x.kids.flatMap fun k => 32 :: g k) ++ [41]

def lv (N : List Nd) (n : Nat) : List Int := rcw [] lvF N n
def sz (N : List Nd) (n : Nat) : Nat := rcw 0 szF N n
def dp (T : List TokI) (N : List Nd) (n : Nat) : List UInt8 := rcw [] (dpF T) N n

theorem flatMap_cong {α β : Type} {l : List α} {g g' : α → List β} (h : ∀ k ∈ l, g k = g' k) : l.flatMap g = l.flatMap g' := by
  induction l with
  | nil => rfl
  | cons a l ih => rw [List.flatMap_cons, List.flatMap_cons, h a List.mem_cons_self, ih fun k hk => h k (List.mem_cons_of_mem _ hk)]

theorem lvF_cong : Cong lvF := fun x g g' h => by unfold lvF; rw [flatMap_cong h]
theorem szF_cong : Cong szF := fun x g g' h => by unfold szF; rw [List.map_congr_left h]
theorem dpF_cong (T : List TokI) : Cong (dpF T) := fun x g g' h => by unfold dpF; rw [flatMap_cong fun k hk => by rw [h k hk]]

theorem lv_eq {N : List Nd} (hN : KidsAhead N) {n : Nat} {x : Nd} (hx : N[n]? = some x) : lv N n = if x.kind = 19 then [x.tok] else x.kids.flatMap fun k => lv N k.toNat := rcw_eq hN lvF_cong hx
theorem sz_eq {N : List Nd} (hN : KidsAhead N) {n : Nat} {x : Nd} (hx : N[n]? = some x) : sz N n = 1 + (x.kids.map fun k => sz N k.toNat).sum := rcw_eq hN szF_cong hx
theorem dp_eq {T : List TokI} {N : List Nd} (hN : KidsAhead N) {n : Nat} {x : Nd} (hx : N[n]? = some x) : dp T N n = if x.kind = 19 then tokL T x.tok else [40] ++ digL x.kind ++ (x.kids.flatMap fun k => 32 :: dp T N k.toNat) ++ [41] := rcw_eq hN (dpF_cong T) hx

/-! ### The right form -/

def allKids (N : List Nd) : List Int := N.flatMap (·.kids)
def times (N : List Nd) (j : Nat) : Nat := (allKids N).count (j : Int)

def okNd (m i : Nat) (x : Nd) : Prop := 1 ≤ x.kind ∧ x.kind ≤ 19 ∧ (x.kind = 19 → x.kids = [] ∧ 0 ≤ x.tok ∧ x.tok < (m : Int)) ∧ (x.kind ≠ 19 → x.tok = -1) ∧ ∀ k ∈ x.kids, 0 ≤ k ∧ k < (i : Int)
def Forms (m : Nat) (N : List Nd) : Prop := N ≠ [] ∧ (∀ (i : Nat) (x : Nd), N[i]? = some x → okNd m i x) ∧ ∀ j : Nat, j + 1 < N.length → times N j = 1
def rightT (m : Nat) (N : List Nd) : Prop := Forms m N ∧ lv N (N.length - 1) = (List.range m).map (fun (i : Nat) => (i : Int))

theorem Forms.ahead {m : Nat} {N : List Nd} (h : Forms m N) : KidsAhead N := fun i x hx => (h.2.1 i x hx).2.2.2.2

/-! ### How many -/

theorem sum_split (c : Int → Nat) (m : Int) (L : List Int) : (L.map c).sum = L.count m * c m + ((L.filter fun k => decide (k ≠ m)).map c).sum := by
  induction L with
  | nil => simp
  | cons a L ih =>
    rw [List.map_cons, List.sum_cons, ih, List.count_cons]
    by_cases h : a = m
    · subst h; simp; rw [Nat.add_mul]; omega
    · rw [List.filter_cons_of_pos (by simpa using h)]
      simp [h]; omega

theorem count_filter_le (m : Int) (L : List Int) (j : Int) : (L.filter fun k => decide (k ≠ m)).count j ≤ L.count j := List.Sublist.count_le _ List.filter_sublist

theorem sum_le (c : Int → Nat) : ∀ (m : Nat) (L : List Int), (∀ k ∈ L, 0 ≤ k ∧ k < (m : Int)) → (∀ j : Nat, j < m → L.count (j : Int) ≤ 1) → (L.map c).sum ≤ ((List.range m).map fun (i : Nat) => c i).sum := by
  intro m
  induction m with
  | zero =>
    intro L h _
    cases L with
    | nil => simp
    | cons a L => have := h a List.mem_cons_self; omega
  | succ m ih =>
    intro L h hc
    rw [sum_split c (m : Int) L, List.range_succ, List.map_append, List.sum_append]
    have h1 := ih (L.filter fun k => decide (k ≠ (m : Int))) (fun k hk => by
      obtain ⟨h2, h3⟩ := List.mem_filter.1 hk
      have := h k h2
      simp at h3
      omega) (fun j hj => Nat.le_trans (count_filter_le _ _ _) (hc j (by omega)))
    have h2 := hc m (by omega)
    have h3 : L.count (m : Int) * c m ≤ 1 * c m := Nat.mul_le_mul_right _ h2
    simp only [List.map_cons, List.map_nil, List.sum_cons, List.sum_nil]
    omega

theorem range_map_get {N : List Nd} (hN : KidsAhead N) : ∀ i, i ≤ N.length → ((List.range i).map fun (j : Nat) => sz N j).sum = i + ((allKids (N.take i)).map fun k => sz N k.toNat).sum := by
  intro i
  induction i with
  | zero => intro _; simp [allKids]
  | succ i ih =>
    intro hi
    obtain ⟨x, hx⟩ : ∃ x, N[i]? = some x := ⟨N[i]'(by omega), List.getElem?_eq_getElem _⟩
    rw [List.range_succ, List.map_append, List.sum_append, ih (by omega), List.take_add_one, hx]
    unfold allKids
    rw [List.flatMap_append, List.map_append, List.sum_append]
    simp only [List.map_cons, List.map_nil, List.sum_cons, List.sum_nil, Option.toList_some, List.flatMap_cons, List.flatMap_nil, List.append_nil]
    rw [sz_eq hN hx]
    omega

theorem count_take (N : List Nd) (i j : Nat) : times (N.take i) j ≤ times N j := by
  unfold times allKids
  have : N.flatMap (·.kids) = (N.take i).flatMap (·.kids) ++ (N.drop i).flatMap (·.kids) := by rw [← List.flatMap_append, List.take_append_drop]
  rw [this, List.count_append]; omega

theorem sz_le {m : Nat} {N : List Nd} (h : Forms m N) {n : Nat} (hn : n < N.length) : sz N n ≤ n + 1 := by
  have hN := h.ahead
  have h1 := range_map_get hN (n + 1) (by omega)
  rw [List.range_succ, List.map_append, List.sum_append] at h1
  simp only [List.map_cons, List.map_nil, List.sum_cons, List.sum_nil] at h1
  have h2 := sum_le (fun k => sz N k.toNat) n (allKids (N.take (n + 1))) (fun k hk => by
    unfold allKids at hk
    obtain ⟨x, hx, hk⟩ := List.mem_flatMap.1 hk
    obtain ⟨i, hi⟩ := List.getElem?_of_mem hx
    have hi2 : i < n + 1 := by
      have := (List.getElem?_eq_some_iff.1 hi).1
      rw [List.length_take] at this; omega
    rw [List.getElem?_take_of_lt hi2] at hi
    have := hN i x hi k hk
    omega) (fun j hj => by
      have h3 := count_take N (n + 1) j
      rw [h.2.2 j (by omega)] at h3
      exact h3)
  simp only [Int.toNat_natCast] at h2
  omega

theorem lv_len {m : Nat} {N : List Nd} (h : Forms m N) : ∀ n, n < N.length → (lv N n).length ≤ sz N n := by
  have hN := h.ahead
  intro n
  induction n using Nat.strongRecOn with
  | ind n ih =>
    intro hn
    obtain ⟨x, hx⟩ : ∃ x, N[n]? = some x := ⟨N[n], List.getElem?_eq_getElem _⟩
    rw [lv_eq hN hx, sz_eq hN hx]
    split
    · simp
    · have : ∀ L : List Int, (∀ k ∈ L, 0 ≤ k ∧ k < (n : Int)) → (L.flatMap fun k => lv N k.toNat).length ≤ (L.map fun k => sz N k.toNat).sum := by
        intro L
        induction L with
        | nil => intro _; simp
        | cons a L ih2 =>
          intro hL
          have h0 := hL a List.mem_cons_self
          have h1 := ih a.toNat (by omega) (by omega)
          have h2 := ih2 fun k hk => hL k (List.mem_cons_of_mem _ hk)
          simp only [List.flatMap_cons, List.length_append, List.map_cons, List.sum_cons]
          omega
      have := this x.kids (hN n x hx)
      omega

theorem kids_len {m : Nat} {N : List Nd} (h : Forms m N) {n : Nat} {x : Nd} (hx : N[n]? = some x) : x.kids.length + 1 ≤ sz N n := by
  have hN := h.ahead
  have hn := (List.getElem?_eq_some_iff.1 hx).1
  rw [sz_eq hN hx]
  have : ∀ L : List Int, (∀ k ∈ L, 0 ≤ k ∧ k < (n : Int)) → L.length ≤ (L.map fun k => sz N k.toNat).sum := by
    intro L
    induction L with
    | nil => intro _; simp
    | cons a L ih2 =>
      intro hL
      have h0 := hL a List.mem_cons_self
      have h2 := ih2 fun k hk => hL k (List.mem_cons_of_mem _ hk)
      obtain ⟨y, hy⟩ : ∃ y, N[a.toNat]? = some y := ⟨N[a.toNat]'(by omega), List.getElem?_eq_getElem _⟩
      have h3 := sz_eq hN hy
      simp only [List.length_cons, List.map_cons, List.sum_cons]
      omega
  have := this x.kids (hN n x hx)
  omega

theorem digL_len (k : Int) : (digL k).length ≤ 2 := by unfold digL; split <;> simp

theorem dp_len {m : Nat} {T : List TokI} {N : List Nd} (h : Forms m N) (hT : ∀ t ∈ T, t.text.length ≤ 100) : ∀ n, n < N.length → (dp T N n).length + 1 ≤ 110 * sz N n := by
  have hN := h.ahead
  intro n
  induction n using Nat.strongRecOn with
  | ind n ih =>
    intro hn
    obtain ⟨x, hx⟩ : ∃ x, N[n]? = some x := ⟨N[n], List.getElem?_eq_getElem _⟩
    rw [dp_eq hN hx, sz_eq hN hx]
    split
    · have : (tokL T x.tok).length ≤ 101 := by
        unfold tokL
        split
        · simp
        · rename_i t ht
          have := hT t (List.mem_of_getElem? ht)
          split
          · simp; omega
          · omega
      omega
    · have : ∀ L : List Int, (∀ k ∈ L, 0 ≤ k ∧ k < (n : Int)) → (L.flatMap fun k => 32 :: dp T N k.toNat).length ≤ 110 * (L.map fun k => sz N k.toNat).sum := by
        intro L
        induction L with
        | nil => intro _; simp
        | cons a L ih2 =>
          intro hL
          have h0 := hL a List.mem_cons_self
          have h1 := ih a.toNat (by omega) (by omega)
          have h2 := ih2 fun k hk => hL k (List.mem_cons_of_mem _ hk)
          simp only [List.flatMap_cons, List.length_append, List.length_cons, List.map_cons, List.sum_cons]
          omega
      have := this x.kids (hN n x hx)
      have := digL_len x.kind
      simp only [List.length_append, List.length_cons, List.length_nil]
      omega
end Go.Proofs.YtdfegmdmappefaaDoor
