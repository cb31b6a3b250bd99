/- Maps: Put, Drop. -/
import Derived.Test.YtljpgmhgnfnbkaaBMap1
namespace Go.Proofs.Ytljpgmhgnfnbkaa
open Go.RowKit Mx

/-- The map has been turned. -/
def MTurnPost (q b n : Nat) (l : List (Int × Int)) (r : Bool) (w : World) (e : Ending) (w' : World) : Prop := e = .returned (.bool r) ∧ MapAt w' q b n l ∧ w.grownBy w' (some b)

set_option maxRecDepth 100000 in
theorem MPut_c {w : World} {q b n : Nat} {l : List (Int × Int)} (k v : Int) (hn : n < 1000000) (hk : (Lit.int .i64 k).wf = true) (h : MapAt w q b n l) : Calls Try.prog 27 #[.pointer (some ⟨q, 0, none⟩), .int .i64 k, .int .i64 v] w (MTurnPost q b (n + 1) (putL l k v) (!hasL l k) w) := by
  have x0 := cell1 h.box
  have hql := (Array.getElem?_eq_some_iff.1 h.box).1
  have hbl := h.own.lt
  have HM := Lib.hid h; have HK := Lib.hid hk
  obtain ⟨p0, hp0⟩ : ∃ p, (atL l k).1 = p := ⟨_, rfl⟩
  obtain ⟨p1, hp1⟩ : ∃ p, (atL l k).2 = p := ⟨_, rfl⟩
  obtain ⟨hs, hhs⟩ : ∃ p, hasL l k = p := ⟨_, rfl⟩
  have HP := Lib.hid (And.intro hp0 (And.intro hp1 hhs))
  have hga := World.grownBy_alloc w (.cells #[.int .i64 p0, .int .i64 p1] 60) none
  have x1 := hga.cell x0 (by simp)
  have HGA := Lib.hid hga
  rw [hhs]
  clear h hk hp0 hp1 hhs hga
  go_enter Try.func27, Try.ntmps27
  go_wp2_with (first | (at_lookup; refine wpList_lookup_pair rfl _ _ rfl b n l rfl HM.out.own k rfl HK.out p0 p1 HP.out.1 HP.out.2.1 hs HP.out.2.2 ?_) | (at_mapUpdate; refine wpList_mapUpdate_own _ rfl _ _ _ 88 rfl 3 60 int_key Try.underlying88 Rp b n (.map (dof l)) rfl (HM.out.own.kept HGA.out (by simp)) (by unfold maxLen; omega) (.int .i64 k) (.agg #[.int .i64 k, .int .i64 v]) (.int .i64 k) rfl rfl (Maps.keyOf_int_mk Try.underlying3 HK.out) (pd k v) [] rfl ?_; intro w5 hown5 hg5))
  go_ret
  rw [dof_put HM.out.asc] at hown5
  exact ⟨rfl, ⟨(hg5.block q (Nat.lt_of_lt_of_le hql HGA.out.size) (fun e => by injection e with e; exact HM.out.ne e.symm)).trans (bx HGA.out HM.out.box), HM.out.ne, hown5, HM.out.asc.put k v⟩, (HGA.out.but b).trans hg5⟩

set_option maxRecDepth 100000 in
theorem MDrop_c {w : World} {q b n : Nat} {l : List (Int × Int)} (k : Int) (hk : (Lit.int .i64 k).wf = true) (h : MapAt w q b n l) : Calls Try.prog 29 #[.pointer (some ⟨q, 0, none⟩), .int .i64 k] w (MTurnPost q b n (delL l k) (hasL l k) w) := by
  have x0 := cell1 h.box
  have hql := (Array.getElem?_eq_some_iff.1 h.box).1
  have hbl := h.own.lt
  have HM := Lib.hid h; have HK := Lib.hid hk
  obtain ⟨p0, hp0⟩ : ∃ p, (atL l k).1 = p := ⟨_, rfl⟩
  obtain ⟨p1, hp1⟩ : ∃ p, (atL l k).2 = p := ⟨_, rfl⟩
  obtain ⟨hs, hhs⟩ : ∃ p, hasL l k = p := ⟨_, rfl⟩
  have HP := Lib.hid (And.intro hp0 (And.intro hp1 hhs))
  have hga := World.grownBy_alloc w (.cells #[.int .i64 p0, .int .i64 p1] 60) none
  have x1 := hga.cell x0 (by simp)
  have HGA := Lib.hid hga
  rw [hhs]
  clear h hk hp0 hp1 hhs hga
  go_enter Try.func29, Try.ntmps29
  go_wp2_with (first | (at_lookup; refine wpList_lookup_pair rfl _ _ rfl b n l rfl HM.out.own k rfl HK.out p0 p1 HP.out.1 HP.out.2.1 hs HP.out.2.2 ?_) | (at_delete; refine wpList_delete_own _ rfl _ _ 88 3 rfl 60 int_key Try.underlying88 Rp b n (.map (dof l)) rfl (HM.out.own.kept HGA.out (by simp)) (.int .i64 k) (.int .i64 k) rfl (Maps.keyOf_int_mk Try.underlying3 HK.out) ?_; intro w5 hown5 hturn))
  go_ret
  have hg5 := hturn.grown
  rw [dof_del] at hown5
  exact ⟨rfl, ⟨(hg5.block q (Nat.lt_of_lt_of_le hql HGA.out.size) (fun e => by injection e with e; exact HM.out.ne e.symm)).trans (bx HGA.out HM.out.box), HM.out.ne, hown5, HM.out.asc.del k⟩, (HGA.out.but b).trans hg5⟩
end Go.Proofs.Ytljpgmhgnfnbkaa
