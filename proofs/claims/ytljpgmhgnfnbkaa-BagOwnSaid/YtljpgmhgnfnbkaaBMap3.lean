/- Maps: Copy. -/
import Derived.Test.YtljpgmhgnfnbkaaBPair1
import Derived.Test.YtljpgmhgnfnbkaaShelfM
namespace Go.Proofs.Ytljpgmhgnfnbkaa
open Go.RowKit Go.Shelf Mx

def MCopyPost (q b n : Nat) (l : List (Int × Int)) (w : World) (e : Ending) (w' : World) : Prop :=
  ∃ q' b', e = .returned (.pointer (some ⟨q', 0, none⟩)) ∧ MapAt w' q' b' n l ∧ MapAt w' q b n l ∧ w.heap.size ≤ q' ∧ w.heap.size ≤ b' ∧ w.grownBy w' none

set_option maxRecDepth 100000 in
theorem MCopy_c {w : World} {q b n : Nat} {l : List (Int × Int)} (h : MapAt w q b n l) : Calls Try.prog 31 #[.pointer (some ⟨q, 0, none⟩)] w (MCopyPost q b n l w) := by
  have x0 := cell1 h.box
  have HM := Lib.hid h
  have hcon := AnyW.maps_Clone_owns Try.cloneM 3 Rp b n (.map (dof l)) w h.own
  change Calls Try.prog 58 _ _ _ at hcon
  have HC := Lib.hid hcon
  clear h hcon
  go_enter Try.func31, Try.ntmps31
  go_wp2_with fail
  refine HC.out.mono ?_
  rintro e w1 ⟨rfl, h1, h2, hB⟩
  have hga := World.grownBy_alloc w1 (.cells #[.map (some w.heap.size)] 90) none
  have HG := Lib.hid (And.intro h1 (And.intro h2 (And.intro hB hga)))
  clear h1 h2 hB hga
  go_wp2_with fail
  go_ret
  obtain ⟨h1, h2, hB, hga⟩ := HG.out
  have hg1 := below_gb (row := none) hB
  have hl := h1.lt
  have := heap_alloc_new w1 (.cells #[.map (some w.heap.size)] 90)
  exact ⟨w1.heap.size, w.heap.size, rfl, ⟨this, by omega, h1.kept hga (by simp), HM.out.asc⟩, HM.out.kept (gb_trans hg1 hga), hg1.size, Nat.le_refl _, gb_trans hg1 hga⟩
end Go.Proofs.Ytljpgmhgnfnbkaa
