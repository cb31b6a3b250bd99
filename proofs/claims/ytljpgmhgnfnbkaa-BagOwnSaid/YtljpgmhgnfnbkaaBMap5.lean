/- Maps: the iterator over the values. -/
import Derived.Test.YtljpgmhgnfnbkaaBMap4
import Derived.Shelf.SlIterI.Collect
namespace Go.Proofs.Ytljpgmhgnfnbkaa
open Go.RowKit Go.Maps Go.Sort Go.Shelf Mx

def encP (p : Int × Int) : Value := .agg #[.int .i64 p.1, .int .i64 p.2]

theorem Rp_some {v : Value} {y : DataW Unit × List MemPlace} (h : Rp v = some y) : ∃ p : Int × Int, v = encP p ∧ y = (pd p.1 p.2, []) := by
  unfold Rp at h
  split at h
  · rename_i cs
    unfold Rl at h
    split at h
    · rename_i a c hc
      simp only [Option.some.injEq] at h
      cases cs
      simp only at hc
      exact ⟨(a, c), by rw [hc]; rfl, h.symm⟩
    · cases h
  · cases h

theorem at_mem {l : List (Int × Int)} {x : Int} {p : Int × Int} (h : ∀ zd, DataW.atKey (.map (dof l)) (.int .i64 x) zd = pd p.1 p.2) : p ∈ l ∧ p.1 = x := by
  have e1 : ((fun p : Lit × DataW Unit => p.1.sameKey (.int .i64 x)) ∘ fun p : Int × Int => (Lit.int .i64 p.1, pd p.1 p.2)) = fun p => p.1 == x := by
    funext p
    simp [same_int]
  have e : (dof l).find? (fun p => p.1.sameKey (.int .i64 x)) = (l.find? (fun p => p.1 == x)).map (fun p => (Lit.int .i64 p.1, pd p.1 p.2)) := by
    unfold dof
    rw [List.find?_map, e1]
  have h0 := h .nil
  unfold DataW.atKey at h0
  simp only [e] at h0
  cases hf : l.find? (fun p => p.1 == x) with
  | none => rw [hf] at h0; simp [pd] at h0
  | some q =>
    rw [hf] at h0
    obtain ⟨h1, h2⟩ := pd_inj h0
    have hq := List.find?_some hf
    have hm := List.mem_of_find?_eq_some hf
    obtain rfl : q = p := Prod.ext h1 h2
    exact ⟨hm, by simpa using hq⟩

theorem rising_inj {l : List (Int × Int)} (hr : Rising l) {p q : Int × Int} (hp : p ∈ l) (hq : q ∈ l) (h : p.1 = q.1) : p = q := by
  induction l with
  | nil => simp at hp
  | cons a r ih =>
    obtain ⟨h1, h2⟩ := List.pairwise_cons.1 hr
    rcases List.mem_cons.1 hp with rfl | hp
    · rcases List.mem_cons.1 hq with rfl | hq
      · rfl
      · have := h1 q hq; omega
    · rcases List.mem_cons.1 hq with e | hq
      · have := h1 p hp; rw [e] at h; omega
      · exact ih h2 hp hq

theorem perm_pairs {l ss : List (Int × Int)} (hr : Rising l) (hp : (ss.map (·.1)).Perm (l.map (·.1))) (hm : ∀ p ∈ ss, p ∈ l) : ss.Perm l := by
  have hn : (l.map (·.1)).Nodup := List.Pairwise.map _ (fun a b (h : a.1 < b.1) => by omega) hr
  have hns : (ss.map (·.1)).Nodup := hp.nodup_iff.2 hn
  have h1 : ss.Nodup := List.Pairwise.of_map (S := fun a b => a ≠ b) _ (fun a b h e => h (by rw [e])) hns
  have h2 : l.Nodup := List.Pairwise.of_map (S := fun a b => a ≠ b) _ (fun a b h e => h (by rw [e])) hn
  refine (List.perm_ext_iff_of_nodup h1 h2).2 fun p => ⟨hm p, fun h => ?_⟩
  obtain ⟨q, hq, e⟩ := List.mem_map.1 (hp.mem_iff.2 (List.mem_map.2 ⟨p, h, rfl⟩))
  obtain rfl := rising_inj hr (hm q hq) h e
  exact hq

set_option maxRecDepth 100000 in
set_option maxHeartbeats 1000000 in
theorem vals1_in (F : Fence) (n : Nat) (h81 : F.fn 81) (hro : F.round = none) (hn : 1 ≤ n) (y Bm b nn : Nat) (l : List (Int × Int)) (hr : Rising l) (J : List (Int × Int) → World → Prop)
    (hY : ∀ pre p W, J pre W → pre.length < l.length → YieldAt F (n - 1) Try.prog y #[encP p] W fun e W' => e = .returned (.bool true) ∧ J (pre ++ [p]) W' ∧ KeepsWalks W W')
    (W : World) (hJ : AbidesFrom W.heap.size J) (hm : W.cell? ⟨Bm, 0, none⟩ = some (.map (some b))) (hown : W.ownsMap Try.prog 3 Rp b nn (.map (dof l))) (h0 : J [] W) :
    CallsIn F n Try.prog 81 #[.func (.yield y) #[] #[], .pointer (some ⟨Bm, 0, none⟩)] W fun e W' => (∃ v, e = .returned v) ∧ ∃ ss : List (Int × Int), ss.Perm l ∧ J ss W' := by
  refine callsIn_of_wp Try.func81 rfl h81 ?_ hro
  simp only [Try.ntmps81, List.size_toArray, List.length_cons, List.length_nil, Nat.reduceAdd, Nat.reduceSub, Array.replicate_succ, Array.replicate_zero, List.push_toArray, List.append_toArray, List.nil_append, List.cons_append]
  gi_wp2_with (first
    | (gi_at_range; refine wpListIn_range_own _ rfl _ 88 rfl 3 60 int_key Try.underlying88 _ b nn _ rfl hown ?_; intro w0 hrg0 hg0 hs0)
    | gi_in)
  go_frame
  gi_loopw [4] (fun _ wr => ∃ (left : Lit → Bool) (cnt : Nat) (ss : List (Int × Int)), wr.ranges Try.prog 3 Rp b W.heap.size nn (.map (dof l)) left cnt ∧ ss.length + cnt ≤ l.length ∧ CollectedI (.map (dof l)) left (ss.map (·.1)) ∧ (∀ p ∈ ss, p ∈ l) ∧ J ss wr)
    (fun _ wr => wr.rangeLeft b W.heap.size)
  case atStart =>
    exact ⟨_, _, [], hrg0, by simp [dof_size], CollectedI.start _, fun p hp => (by cases hp), hJ [] W w0 none h0 hg0 (fun r e => by cases e)⟩
  case round =>
    obtain ⟨left, cnt, ss, hrg, hcs, hC, hM, hJs⟩ := hrel
    gi_wp2_with (first
      | (gi_at_next; refine wpListIn_next_ranges _ rfl _ rfl 3 int_key Rp encZ encP (fun key kl hk => by obtain ⟨x, hx, _⟩ := Maps.keyOf_i64 Try.underlying3 hk; exact ⟨x, hx⟩) (fun v _ hv => by obtain ⟨p, e, _⟩ := Rp_some hv; exact ⟨p, e⟩) b W.heap.size nn _ _ _ rfl hrg ?_ ?_)
      | gi_in)
    · intro hc0 hl0
      gi_wp2
      go_end0
      exact ⟨⟨_, rfl⟩, ss, perm_pairs hr (by have := hC.perm hown int_key Try.underlying3 hl0; rwa [keys_dof] at this) hM, hJs⟩
    · intro x c1 c2 kl yd yp w2 cnt2 hkey hlk hv hat hrg2 hlt hg2 hs2 hen
      obtain ⟨x', ex, rfl, _⟩ := Maps.keyOf_i64 Try.underlying3 hkey
      obtain rfl : x = x' := encZ_inj ex
      obtain ⟨p, ep, hyd⟩ := Rp_some hv
      injection hyd with hyd hyp
      subst hyd
      obtain ⟨c, hc⟩ : ∃ c : Int × Int, c = (c1, c2) := ⟨_, rfl⟩
      have hcp : p = c := by
        unfold encP at ep
        simp at ep
        rw [hc]
        exact Prod.ext ep.1.symm ep.2.symm
      subst hcp
      obtain rfl : p.1 = c1 := by rw [hc]
      obtain rfl : p.2 = c2 := by rw [hc]
      clear hc
      obtain ⟨hmem, hfst⟩ := at_mem hat
      obtain ⟨pk, pv⟩ := p
      simp only at hfst hat hv hen hmem
      subst hfst
      have hJ2 : J ss w2 := hJ ss wr w2 (some W.heap.size) hJs hg2 (fun r e => by cases e; exact ⟨Nat.le_refl _, hrg.iter_walk⟩)
      have hga := World.grownBy_alloc w2 (.cells #[.int .i64 pk, .int .i64 pv] 60) none
      have hJ3 := hJ ss w2 _ none hJ2 hga (fun r e => by cases e)
      have hrg3 := hrg2.kept hga (by simp) (by simp)
      obtain ⟨fn, tmps, assign, body, hy, hR⟩ := hY ss (pk, pv) _ hJ3 (by omega)
      clear hs2
      unfold encP at hen
      try unfold encP at hy
      gi_wp2
      refine hR.mono ?_
      rintro e W3 ⟨rfl, hJ4, hk3⟩
      gi_wp2
      have hrg4 := hrg3.of_walks hk3
      go_roundw
      case rel => exact ⟨_, cnt2, ss ++ [(pk, pv)], hrg4, by simp; omega, by rw [List.map_append]; exact hC.step hlk hat, fun p hp => (by rcases List.mem_append.1 hp with hp | hp; exact hM p hp; simp at hp; subst hp; exact hmem), hJ4⟩
      case measure => rw [hrg4.left_eq, hrg.left_eq]; exact hlt

set_option maxHeartbeats 1000000 in
theorem vals_in (F : Fence) (n : Nat) (h60 : F.fn 60) (hro : F.round = none) (mb : Option Nat) (w : World) :
    CallsIn F n Try.prog 60 #[.map mb] w fun e w' => e = .returned (.func (.func 81) #[] #[.pointer (some ⟨w.heap.size, 0, none⟩)]) ∧ w' = w.alloc (.cells #[.map mb] 88) := by
  refine callsIn_of_wp Try.func60 rfl h60 ?_ hro
  simp only [Try.ntmps60, List.size_toArray, List.length_cons, List.length_nil, Nat.reduceAdd, Nat.reduceSub, Array.replicate_succ, Array.replicate_zero, List.push_toArray, List.append_toArray, List.nil_append, List.cons_append]
  gi_wp2
  go_ret
  exact ⟨rfl, rfl⟩

/-- maps.Values hands back an iterator over the pairs. -/
theorem vals_gives (F : Fence) (n : Nat) (h81 : F.fn 81) (hro : F.round = none) (hn : 1 ≤ n) (Bm b nn : Nat) (l : List (Int × Int)) (hr : Rising l) (w : World) (hBm : Bm < w.heap.size)
    (hm : w.cell? ⟨Bm, 0, none⟩ = some (.map (some b))) (hown : w.ownsMap Try.prog 3 Rp b nn (.map (dof l))) :
    SeqGives F n Try.prog 81 #[.pointer (some ⟨Bm, 0, none⟩)] encP (fun ss => ss.Perm l) l.length w := fun y J W hW hJ hY h0 => by
  have hown' : W.ownsMap Try.prog 3 Rp b nn (.map (dof l)) := by
    have hbl := hown.lt
    obtain ⟨es, clock, hb, Ft, hs, hD⟩ := hown
    exact ⟨es, clock, (hW.block b hbl).trans hb, Ft, hs, hD⟩
  exact vals1_in F n h81 hro hn y Bm b nn l hr J hY W hJ ((hW.cell (p := ⟨Bm, 0, none⟩) hBm).trans hm) hown' h0
end Go.Proofs.Ytljpgmhgnfnbkaa
