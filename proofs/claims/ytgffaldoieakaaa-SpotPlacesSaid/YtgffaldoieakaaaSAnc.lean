/- The law's anchor: the document's example of layer 4. -/
import Derived.Test.YtgffaldoieakaaaSPut
namespace Go.Proofs.Ytgffaldoieakaaa
open Go.RowKit

def ValPost (v : Value) (w : World) (e : Ending) (w' : World) : Prop := e = .returned v ∧ w.grownBy w' none

def ancE : List Ed := [(1, ⟨#[120]⟩), (2, ⟨#[121, 122]⟩)]

theorem anc_right : rightB 2 ancE = true := by kernel_rfl
theorem anc_put : putL [97, 98] ancE = [97, 120, 98, 121, 122] := by kernel_rfl
theorem anc_spans : (putSt [97, 98] ancE).2.2 = [(1, 2), (3, 5)] := by kernel_rfl

set_option maxRecDepth 100000 in
set_option maxHeartbeats 4000000 in
theorem anchor_c (w : World) : Calls Try.prog 8 #[] w (ValPost (.bool true) w) := by
  have hbx := heap_alloc_new w (.cells #[.int .i64 1, .string ⟨#[120]⟩, .int .i64 2, .string ⟨#[121, 122]⟩] 56)
  have hga := World.grownBy_alloc w (.cells #[.int .i64 1, .string ⟨#[120]⟩, .int .i64 2, .string ⟨#[121, 122]⟩] 56) none
  have hq : QAt (w.alloc (.cells #[.int .i64 1, .string ⟨#[120]⟩, .int .i64 2, .string ⟨#[121, 122]⟩] 56)) (some ⟨w.heap.size, 0, none⟩) (ancE.map edV) := .inr ⟨w.heap.size, 0, rfl, hlt hbx, fun j q hj => by
    match j, hj with
    | 0, hj => simp [ancE, edV] at hj; subst hj; exact ⟨by rw [cell_of_row _ w.heap.size _ _ _ (0, 0) hbx]; rfl, by rw [cell_of_row _ w.heap.size _ _ _ (0, 0) hbx]; rfl⟩
    | 1, hj => simp [ancE, edV] at hj; subst hj; exact ⟨by rw [cell_of_row _ w.heap.size _ _ _ (0, 0) hbx]; rfl, by rw [cell_of_row _ w.heap.size _ _ _ (0, 0) hbx]; rfl⟩⟩
  have HP := Lib.hid (Put_c ⟨#[97, 98]⟩ (some ⟨w.heap.size, 0, none⟩) 2 ancE _ (by decide) (by decide) hq)
  have HGA := Lib.hid hga
  clear hbx hga hq
  go_enter Try.func8, Try.ntmps8
  go_wp2_with fail
  refine HP.out.mono ?_
  rintro e w1 ⟨hg, h⟩
  rw [show (⟨#[97, 98]⟩ : ByteArray).size = 2 from rfl, anc_right, if_pos rfl] at h
  obtain ⟨q, c, rfl, ho⟩ := h
  rw [show (⟨#[97, 98]⟩ : ByteArray).data.toList = [97, 98] from rfl] at ho ⊢
  rw [anc_spans] at ho
  rw [anc_put]
  obtain ⟨q2, c2, he, hv, -, -⟩ := ho.is
  injection he with e1 e2 e3
  subst e1; subst e3
  obtain ⟨g, off, rfl, hgl, hc⟩ := hv.resolve_left (by simp)
  obtain ⟨a0, a1⟩ := hc 0 _ rfl
  obtain ⟨a2, a3⟩ := hc 1 _ rfl
  have HG := Lib.hid (gb_trans HGA.out hg)
  simp only [ancE, spV, List.length_cons, List.length_nil, Nat.zero_add, Nat.zero_mul, Nat.one_mul, Nat.add_zero, Nat.reduceAdd] at a0 a1 a2 a3 ⊢
  clear hc hgl hv ho hg e2 HP
  go_wp2_with fail
  go_ret
  exact ⟨rfl, HG.out⟩
end Go.Proofs.Ytgffaldoieakaaa
