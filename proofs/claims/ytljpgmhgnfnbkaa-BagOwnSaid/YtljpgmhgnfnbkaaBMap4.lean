/- Maps: Keys. -/
import Derived.Test.YtljpgmhgnfnbkaaBMap3
import Derived.Test.YtljpgmhgnfnbkaaShelfK
import Derived.Test.YtljpgmhgnfnbkaaShelf
namespace Go.Proofs.Ytljpgmhgnfnbkaa
open Go.RowKit Go.Maps Go.Sort Go.Shelf Mx

/-- slices.Sort's two contracts. -/
theorem sortsM (m : Nat) : AnyZI.SortsIn Try.prog Try.sortedM_ren Fence.wide m :=
  ⟨fun blk off cap ss W hH hblk hsz => callsIn_wide.2 (Try.slices_Sort_int blk off cap ss W hH hblk hsz), fun p cap W => callsIn_wide.2 (Try.slices_Sort_int_none p cap W)⟩

theorem keys_dof (l : List (Int × Int)) : intKeys (.map (dof l)) = l.map (·.1) := by
  unfold dof
  induction l with
  | nil => rfl
  | cons p r ih => exact congrArg (List.cons p.1) ih

theorem sorted_keys {l : List (Int × Int)} (h : Rising l) {ss : List Int} (hp : ss.Perm (l.map (·.1))) : ss.mergeSort (fun x y => decide (x ≤ y)) = l.map (·.1) := by
  have h1 : (ss.mergeSort (fun x y => decide (x ≤ y))).Perm (l.map (·.1)) := (List.mergeSort_perm ss _).trans hp
  have h2 : (ss.mergeSort (fun x y => decide (x ≤ y))).Pairwise (fun x y => decide (x ≤ y) = true) := List.pairwise_mergeSort (fun a b c hab hbc => by simp at *; omega) (fun a b => by simp; omega) ss
  have h3 : (l.map (·.1)).Pairwise (fun x y => decide (x ≤ y) = true) := List.pairwise_map.2 (List.Pairwise.imp (fun {a b} hab => by simp; omega) h)
  exact List.Perm.eq_of_pairwise (fun a b _ _ hab hba => by simp at hab hba; omega) h2 h3 h1

def MKeysPost (l : List (Int × Int)) (w : World) (e : Ending) (w' : World) : Prop :=
  ∃ p n c, e = .returned (.slice p n c) ∧ n = l.length ∧ OwnL w' w.heap.size (.slice p n c) (l.map (·.1)) ∧ w.grownBy w' none

set_option maxHeartbeats 1000000 in
theorem MKeys_c {w : World} {q b nn : Nat} {l : List (Int × Int)} (hl : l.length ≤ 1000000) (h : MapAt w q b nn l) : Calls Try.prog 33 #[.pointer (some ⟨q, 0, none⟩)] w (MKeysPost l w) := by
  refine (callsIn_wide (n := 6)).1 ?_
  have x0 := cell1 h.box
  have hown := h.own
  have hasc := Lib.hid h.asc
  have hbl := hown.lt
  have hmax : Maps.size (.map (dof l)) ≤ maxLen := by rw [dof_size]; unfold maxLen; omega
  have hbytes : Maps.size (.map (dof l)) * 8 ≤ 140737488355328 := by rw [dof_size]; omega
  have hseq : SeqGives Fence.wide 2 Try.prog 84 #[.pointer (some ⟨w.heap.size, 0, none⟩)] encZ (fun ss => ss.Perm (intKeys (.map (dof l)))) (Maps.size (.map (dof l))) (w.alloc (.cells #[.map (some b)] 88)) :=
    AnyZI.keys_gives (ρ := Try.keysM_ren) { Try.keysM with } Fence.wide _ trivial rfl (by omega) w.heap.size b nn (.map (dof l)) _ (by simp) (by simp) (by
      obtain ⟨es, clock, hb, Ft, hs, hD⟩ := hown
      exact ⟨es, clock, (Below.heap_alloc _ _ b hbl).trans hb, Ft, hs, hD⟩)
  have cK : ∀ mb W, CallsIn Fence.wide 5 Try.prog 64 #[.map mb] W fun e w' => e = .returned (.func (.func 84) #[] #[.pointer (some ⟨W.heap.size, 0, none⟩)]) ∧ w' = W.alloc (.cells #[.map mb] 88) := fun mb W => AnyZI.keys_in Try.keysM Fence.wide 5 trivial rfl mb W
  have cS := AnyZI.sorted_in Try.sortedM Fence.wide 5 trivial trivial trivial trivial rfl (by omega) (sortsM _) (enters_of Try.func46 (by kernel_rfl) rfl) 84 #[.pointer (some ⟨w.heap.size, 0, none⟩)] trivial (enters_of Try.func84 (by kernel_rfl) rfl) _ _ hmax hbytes _ hseq
  change CallsIn _ _ Try.prog 63 _ _ _ at cS
  have HCS := Lib.hid cS
  have hfK : Fence.wide.fn 64 := trivial
  have hfS : Fence.wide.fn 63 := trivial
  clear h hown hbl hmax hbytes hseq cS
  refine callsIn_of_wp Try.func33 rfl trivial ?_ rfl
  simp only [Try.ntmps33, List.size_toArray, List.length_cons, List.length_nil, Nat.reduceAdd, Nat.reduceSub, Array.replicate_succ, Array.replicate_zero, List.push_toArray, List.append_toArray, List.nil_append, List.cons_append]
  gi_wp2_with (first
    | (gi_at_call 64; refine (cK _ _).mono ?_; rintro e w' ⟨rfl, rfl⟩)
    | (gi_at_call 63; refine HCS.out.mono ?_; rintro e w' ⟨v, ss, rfl, hS, hrow, hnil, hb⟩))
  go_ret
  rw [keys_dof] at hS
  rw [sorted_keys hasc.out hS] at hrow
  have hrow2 := ownsRow_base_a (base' := w.heap.size) hrow (by simp)
  have hlen : ss.length = (l.map (·.1)).length := hS.length_eq
  rw [hlen] at hrow2
  have hv : ∃ p c, v = .slice p (l.map (·.1)).length c := by
    rcases hrow2.2 with ⟨rfl, h0⟩ | ⟨g, cap, cur, rfl, _⟩
    · rw [h0]; exact ⟨_, _, rfl⟩
    · exact ⟨_, _, rfl⟩
  obtain ⟨p, c, rfl⟩ := hv
  exact ⟨p, _, c, rfl, by simp, hrow2, below_gb (((Below.refl _ w).alloc (Nat.le_refl _) _).trans (hb.mono (by simp)))⟩
end Go.Proofs.Ytljpgmhgnfnbkaa
