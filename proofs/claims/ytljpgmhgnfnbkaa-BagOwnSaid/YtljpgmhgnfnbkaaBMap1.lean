/- Maps over machine's numbers: a rising list of keys and values; NewMap, Len, Get. -/
import Derived.Test.YtljpgmhgnfnbkaaBRing1
import Derived.Maps.OwnSet
import Derived.Carry
namespace Go.Proofs.Ytljpgmhgnfnbkaa
open Go.RowKit Mx

/-- What a pair reads as. -/
def pd (k v : Int) : DataW Unit := .agg [.lit (.int .i64 k), .lit (.int .i64 v)]
def Rl : List Value → Option (DataW Unit × List MemPlace)
  | [.int .i64 k, .int .i64 x] => some (pd k x, [])
  | _ => none
def Rp : Value → Option (DataW Unit × List MemPlace)
  | .agg cs => Rl cs.toList
  | _ => none

theorem pd_inj {a b c d : Int} (h : pd a b = pd c d) : a = c ∧ b = d := by
  unfold pd at h
  simpa using h

theorem Rp_inv {v : Value} {k x : Int} {ps : List MemPlace} (h : Rp v = some (pd k x, ps)) : v = .agg #[.int .i64 k, .int .i64 x] := by
  unfold Rp at h
  split at h
  · rename_i cs
    unfold Rl at h
    split at h
    · rename_i hc
      simp only [Option.some.injEq, Prod.mk.injEq] at h
      obtain ⟨h, -⟩ := h
      obtain ⟨rfl, rfl⟩ := pd_inj h
      cases cs
      simp only at hc
      rw [hc]
    · cases h
  · cases h

def Rising (l : List (Int × Int)) : Prop := l.Pairwise (fun p q => p.1 < q.1)
def dof (l : List (Int × Int)) : List (Lit × DataW Unit) := l.map fun p => (.int .i64 p.1, pd p.1 p.2)
def putL : List (Int × Int) → Int → Int → List (Int × Int)
  | [], k, v => [(k, v)]
  | p :: r, k, v => if k < p.1 then (k, v) :: p :: r else if p.1 = k then (k, v) :: r else p :: putL r k v
def delL (l : List (Int × Int)) (k : Int) : List (Int × Int) := l.filter (fun p => !(p.1 == k))
def hasL (l : List (Int × Int)) (k : Int) : Bool := l.any (fun p => p.1 == k)
def atL (l : List (Int × Int)) (k : Int) : Int × Int := (l.find? (fun p => p.1 == k)).getD (0, 0)

theorem same_int (a b : Int) : (Lit.int .i64 a).sameKey (.int .i64 b) = (a == b) := by
  simp only [Lit.sameKey, true_and]
  rfl

theorem keeps {l : List (Int × Int)} {k : Int} (h : ∀ p ∈ l, k < p.1) : (dof l).filter (fun p => !p.1.sameKey (.int .i64 k)) = dof l := by
  refine List.filter_eq_self.2 fun p hp => ?_
  obtain ⟨y, hy, rfl⟩ := List.mem_map.1 hp
  have := h y hy
  rw [same_int]
  simp
  omega

theorem insert_front {l : List (Int × Int)} {k v : Int} (h : ∀ p ∈ l, k < p.1) : DataW.insert (.int .i64 k, pd k v) (dof l) = dof ((k, v) :: l) := by
  cases l with
  | nil => rfl
  | cons p r =>
    have h1 := h p (by simp)
    show DataW.insert _ ((Lit.int .i64 p.1, pd p.1 p.2) :: dof r) = _
    unfold DataW.insert
    exact if_pos (show (Lit.int .i64 k).before (.int .i64 p.1) = true from decide_eq_true h1)

theorem dof_put {l : List (Int × Int)} (h : Rising l) (k v : Int) : DataW.put (.map (dof l)) (.int .i64 k) (pd k v) = .map (dof (putL l k v)) := by
  show DataW.map (DataW.insert (.int .i64 k, pd k v) ((dof l).filter fun p => !p.1.sameKey (.int .i64 k))) = _
  congr 1
  induction l with
  | nil => rfl
  | cons p r ih =>
    obtain ⟨h1, h2⟩ := List.pairwise_cons.1 h
    unfold putL
    by_cases c1 : k < p.1
    · rw [if_pos c1, keeps (fun y hy => ?_), insert_front (fun y hy => ?_)]
      all_goals
        rcases List.mem_cons.1 hy with rfl | hy
        · exact c1
        · have := h1 y hy; omega
    · rw [if_neg c1]
      by_cases c2 : p.1 = k
      · subst c2
        rw [if_pos rfl]
        have e : (dof (p :: r)).filter (fun y => !y.1.sameKey (.int .i64 p.1)) = dof r := by
          show List.filter _ ((Lit.int .i64 p.1, pd p.1 p.2) :: dof r) = _
          rw [List.filter_cons_of_neg (by simp [same_int]), keeps h1]
        rw [e, insert_front h1]
      · rw [if_neg c2]
        show DataW.insert _ (List.filter _ ((Lit.int .i64 p.1, pd p.1 p.2) :: dof r)) = (Lit.int .i64 p.1, pd p.1 p.2) :: dof (putL r k v)
        rw [List.filter_cons_of_pos (by simp [same_int, c2]), ← ih h2]
        rw [DataW.insert, if_neg (by simp [Lit.before, c1])]

theorem dof_del (l : List (Int × Int)) (k : Int) : DataW.del (.map (dof l)) (.int .i64 k) = .map (dof (delL l k)) := by
  show DataW.map ((dof l).filter fun p => !p.1.sameKey (.int .i64 k)) = _
  unfold dof delL
  rw [List.filter_map]
  congr 2
  refine List.filter_congr fun p _ => ?_
  simp [same_int]

theorem dof_has (l : List (Int × Int)) (k : Int) : Maps.has (.map (dof l)) (.int .i64 k) = hasL l k := by
  show (dof l).any _ = _
  unfold dof hasL
  rw [List.any_map]
  congr 1
  funext p
  simp [same_int]

theorem dof_at (l : List (Int × Int)) (k : Int) : DataW.atKey (.map (dof l)) (.int .i64 k) (pd 0 0) = pd (atL l k).1 (atL l k).2 := by
  have e1 : ((fun p : Lit × DataW Unit => p.1.sameKey (.int .i64 k)) ∘ fun p : Int × Int => (Lit.int .i64 p.1, pd p.1 p.2)) = fun p => p.1 == k := by
    funext p
    simp [same_int]
  have e : (dof l).find? (fun p => p.1.sameKey (.int .i64 k)) = (l.find? (fun p => p.1 == k)).map (fun p => (Lit.int .i64 p.1, pd p.1 p.2)) := by
    unfold dof
    rw [List.find?_map, e1]
  unfold DataW.atKey atL
  simp only [e]
  cases l.find? (fun p => p.1 == k) <;> rfl

theorem dof_size (l : List (Int × Int)) : Maps.size (.map (dof l)) = l.length := by simp [Maps.size, dof]

theorem putL_mem {l : List (Int × Int)} {k v : Int} {y : Int × Int} (h : y ∈ putL l k v) : y = (k, v) ∨ y ∈ l := by
  induction l with
  | nil => simpa [putL] using h
  | cons p r ih =>
    unfold putL at h
    split at h
    · rcases List.mem_cons.1 h with h | h
      · exact .inl h
      · exact .inr h
    · split at h
      · rcases List.mem_cons.1 h with h | h
        · exact .inl h
        · exact .inr (by simp [h])
      · rcases List.mem_cons.1 h with h | h
        · exact .inr (by simp [h])
        · exact (ih h).imp id (fun h => by simp [h])

theorem Rising.put {l : List (Int × Int)} (h : Rising l) (k v : Int) : Rising (putL l k v) := by
  induction l with
  | nil => simp [putL, Rising]
  | cons p r ih =>
    obtain ⟨h1, h2⟩ := List.pairwise_cons.1 h
    unfold putL
    by_cases c1 : k < p.1
    · rw [if_pos c1]
      refine List.pairwise_cons.2 ⟨fun y hy => ?_, h⟩
      rcases List.mem_cons.1 hy with rfl | hy
      · exact c1
      · have := h1 y hy; show k < y.1; omega
    · rw [if_neg c1]
      by_cases c2 : p.1 = k
      · rw [if_pos c2]
        exact List.pairwise_cons.2 ⟨fun y hy => by have := h1 y hy; show k < y.1; omega, h2⟩
      · rw [if_neg c2]
        refine List.pairwise_cons.2 ⟨fun y hy => ?_, ih h2⟩
        rcases putL_mem hy with rfl | hy
        · show p.1 < k; omega
        · exact h1 y hy

theorem Rising.del {l : List (Int × Int)} (h : Rising l) (k : Int) : Rising (delL l k) := List.Pairwise.filter _ h

/-- A map behind a pointer. -/
structure MapAt (w : World) (q b n : Nat) (l : List (Int × Int)) : Prop where
  box : w.heap[q]? = some (.cells #[.map (some b)] 90 (0, 0))
  ne : b ≠ q
  own : w.ownsMap Try.prog 3 Rp b n (.map (dof l))
  asc : Rising l

theorem MapAt.kept {w w' : World} {q b n : Nat} {l : List (Int × Int)} (h : MapAt w q b n l) (hg : w.grownBy w' none) : MapAt w' q b n l :=
  ⟨bx hg h.box, h.ne, h.own.kept hg (by simp), h.asc⟩

theorem int_key : Maps.Keyed Try.prog 3 := Maps.int_keyed Try.underlying3
theorem zeroP (w : World) : (zeroValue 60).run Try.prog w = .ok (.agg #[.int .i64 0, .int .i64 0]) w := by kernel_rfl

theorem cell1 {w : World} {r : Nat} {u : Value} {T : TypeId} (h : w.heap[r]? = some (.cells #[u] T (0, 0))) : w.cell? ⟨r, 0, none⟩ = some u := by rw [cell_of_row w r 0 _ T (0, 0) h]; rfl

/-- 'p, ok := m[k]'. -/
theorem wpList_lookup_pair {w : World} {ops : Array Oper} {rest : List Oper} {o : Oper} {a : Act} {Q : Exit → Act → World → Prop} (hg : o.guard = none) (m x : Operand) (hop : o.op = Op.lookup 88 m x true)
    (b n : Nat) (l : List (Int × Int)) (hm : a.eval m = .map (some b)) (hown : w.ownsMap Try.prog 3 Rp b n (.map (dof l))) (k : Int) (hx : a.eval x = .int .i64 k) (hk : (Lit.int .i64 k).wf = true) (p0 p1 : Int) (hp0 : (atL l k).1 = p0) (hp1 : (atL l k).2 = p1) (hs : Bool) (hhs : hasL l k = hs)
    (hK : wpList Try.prog ops Q rest (a.put o.dst (.tuple #[.agg #[.int .i64 p0, .int .i64 p1], .bool hs])) w) : wpList Try.prog ops Q (o :: rest) a w := by
  refine wpList_lookup_own_ok _ hg m x 88 hop 3 60 int_key Try.underlying88 Rp (zeroP w) (pd 0 0) [] rfl b n (.map (dof l)) hm hown (.int .i64 k) (.int .i64 k) hx (Maps.keyOf_int_mk Try.underlying3 hk) ?_
  intro v ps hv
  rw [dof_at, hp0, hp1] at hv
  rw [Rp_inv hv, dof_has, hhs]
  exact hK

def NewMapPost (w : World) (e : Ending) (w' : World) : Prop := ∃ q b, e = .returned (.pointer (some ⟨q, 0, none⟩)) ∧ MapAt w' q b 0 [] ∧ w.heap.size ≤ q ∧ w.heap.size ≤ b ∧ w.grownBy w' none

set_option maxRecDepth 100000 in
theorem NewMap_c (w : World) : Calls Try.prog 25 #[] w (NewMapPost w) := by
  have hmm := @run_makeMap Try.prog
  go_enter Try.func25, Try.ntmps25
  go_wp2_with fail
  go_ret
  have h1 := World.grownBy_alloc w (.map #[] 0) none
  have h2 := World.grownBy_alloc (w.alloc (.map #[] 0)) (.cells #[.map (some w.heap.size)] 90) none
  refine ⟨w.heap.size + 1, w.heap.size, by simp, ⟨?_, by omega, ?_, by simp [Rising]⟩, by omega, Nat.le_refl _, gb_trans h1 h2⟩
  · have := heap_alloc_new (w.alloc (.map #[] 0)) (.cells #[.map (some w.heap.size)] 90)
    simpa using this
  · exact (World.ownsMap_made w Try.prog 3 Rp).kept h2 (by simp)

set_option maxRecDepth 100000 in
theorem MLen_c {w : World} {q b n : Nat} {l : List (Int × Int)} (h : MapAt w q b n l) : Calls Try.prog 34 #[.pointer (some ⟨q, 0, none⟩)] w (ValD (.int .i64 (l.length : Nat)) w) := by
  have x0 := cell1 h.box
  have HO := Lib.hid h.own
  clear h
  go_enter Try.func34, Try.ntmps34
  go_wp2_with (at_len; refine wpList_len_own _ rfl _ 88 rfl 3 60 Try.underlying88 Rp b n (.map (dof l)) rfl HO.out ?_; rw [dof_size])
  go_ret
  exact ⟨rfl, rfl⟩

def MGetPost (l : List (Int × Int)) (k : Int) (w : World) (e : Ending) (w' : World) : Prop := e = .returned (.tuple #[.int .i64 (atL l k).2, .bool (hasL l k)]) ∧ w.grownBy w' none

set_option maxRecDepth 100000 in
theorem MGet_c {w : World} {q b n : Nat} {l : List (Int × Int)} (k : Int) (hk : (Lit.int .i64 k).wf = true) (h : MapAt w q b n l) : Calls Try.prog 30 #[.pointer (some ⟨q, 0, none⟩), .int .i64 k] w (MGetPost l k w) := by
  have x0 := cell1 h.box
  have HO := Lib.hid h.own; have HK := Lib.hid hk
  obtain ⟨p0, hp0⟩ : ∃ p, (atL l k).1 = p := ⟨_, rfl⟩
  obtain ⟨p1, hp1⟩ : ∃ p, (atL l k).2 = p := ⟨_, rfl⟩
  obtain ⟨hs, hhs⟩ : ∃ p, hasL l k = p := ⟨_, rfl⟩
  have HP := Lib.hid (And.intro hp0 (And.intro hp1 hhs))
  clear h hk hp0 hp1 hhs
  go_enter Try.func30, Try.ntmps30
  go_wp2_with (at_lookup; refine wpList_lookup_pair rfl _ _ rfl b n l rfl HO.out k rfl HK.out p0 p1 HP.out.1 HP.out.2.1 hs HP.out.2.2 ?_)
  go_ret2
  obtain ⟨rfl, rfl, rfl⟩ := HP.out
  exact ⟨rfl, World.grownBy_alloc w _ none⟩
end Go.Proofs.Ytljpgmhgnfnbkaa
