/- The law's anchor: the document's example of layer 3. -/
import Derived.Test.YtponbjocaackcaaLDrainI
namespace Go.Proofs.Ytponbjocaackcaa
open Go.RowKit Go.Conc

def ValPost (v : Value) (w : World) (e : Ending) (w' : World) : Prop := e = .returned v ∧ w.grownBy w' none

def ints (n : Nat) : List Value := (List.range n).map fun j => Value.int .i64 (j : Nat)

theorem ints_succ (n : Nat) : ints (n + 1) = ints n ++ [Value.int .i64 (n : Nat)] := by
  unfold ints; rw [List.range_succ]; simp

theorem ints_len (n : Nat) : (ints n).length = n := by simp [ints]

theorem loffer_urgent {room : Nat} {U S : List Value} {x : Value} (h : U.length < room) : LOffer room false U S x true = (0, U ++ [x], S) := by simp [LOffer, h]
theorem loffer_usual {room : Nat} {U S : List Value} {x : Value} (h : S.length < room) : LOffer room false U S x false = (0, U, S ++ [x]) := by simp [LOffer, h]

theorem anchor_drains : Drains (ints 5) [Value.int .i64 9] 0 [.int .i64 0, .int .i64 1, .int .i64 2, .int .i64 3, .int .i64 9, .int .i64 4] :=
  .some rfl (.some rfl (.some rfl (.some rfl (.some rfl (.some rfl (.none rfl))))))

set_option maxRecDepth 100000 in
set_option maxHeartbeats 4000000 in
theorem anchor_c (w : World) : Calls Try.prog 6 #[] w (ValPost (.bool true) w) := by
  go_enter Try.func6, Try.ntmps6
  go_wp2_with fail
  refine (New_c_int 9 (by omega) (by omega) _).mono ?_
  rintro e w1 ⟨q, u, v, rfl, hl, hq, hu, hv, hg⟩
  have HL := Lib.hid hl; have HG := Lib.hid hg; have HQ := Lib.hid (show w.heap.size ≤ q ∧ w.heap.size ≤ u ∧ w.heap.size ≤ v by omega)
  clear hl hg hq hu hv
  go_wp2_with fail
  refine (Offer_c_int HL.out 9 false).mono ?_
  rintro e w2 ⟨rfl, hl2, hf2, -⟩
  rw [loffer_usual (by simp)] at hl2 ⊢
  have HL2 := Lib.hid hl2; have HG2 := Lib.hid (Fr2.after HG.out hf2 (fun i hi => by have := HQ.out; omega))
  clear hl2 hf2 HL HG
  go_wp2_with fail
  go_loopw [20] (fun i wr => ∃ k : Nat, k ≤ 5 ∧ i = .int .i64 k ∧ Hid (LaneAt 54 wr q u v 9 (ints k) [.int .i64 9] 0 false) ∧ Hid (w.grownBy wr none)) (fun i _ => 5 - (intOf i).toNat)
  case atStart => exact ⟨0, by omega, rfl, HL2, HG2⟩
  case round =>
    obtain ⟨k, hk, rfl, HK, HGK⟩ := hrel
    by_cases hlt : k < 5
    · have HC := Lib.hid (Offer_c_int HK.out (k : Int) true)
      have HO := Lib.hid (loffer_urgent (room := 9) (U := ints k) (S := [Value.int .i64 9]) (x := .int .i64 (k : Int)) (by rw [ints_len]; omega))
      go_wp2_with fail
      refine HC.out.mono ?_
      rintro e w3 ⟨rfl, hl3, hf3, -⟩
      rw [HO.out] at hl3 ⊢
      have HL3 := Lib.hid hl3; have HG3 := Lib.hid (Fr2.after HGK.out hf3 (fun i hi => by have := HQ.out; omega))
      clear hl3 hf3
      go_wp2_with fail
      go_roundw
      case rel => exact ⟨k + 1, by omega, by go_num, Lib.hid (by rw [ints_succ]; exact HL3.out), HG3⟩
      case measure => simp [intOf]; omega
    · obtain rfl : k = 5 := by omega
      have HD := Lib.hid (Drain_c_int HK.out _ anchor_drains (fun x hx => by simp at hx; rcases hx with rfl | rfl | rfl | rfl | rfl | rfl <;> exact ⟨_, rfl⟩))
      go_wp2_with fail
      refine HD.out.mono ?_
      rintro e w3 ⟨p, c, rfl, ho, -, hf3⟩
      obtain ⟨p2, c2, he, hv, -, -⟩ := ho.is
      injection he with e1 e2 e3
      subst e1; subst e3
      obtain ⟨g, off, rfl, -, hc⟩ := hv.resolve_left (by simp)
      have c3 := hc 3 _ rfl
      have c4 := hc 4 _ rfl
      have c5 := hc 5 _ rfl
      have HG3 := Lib.hid (Fr2.after HGK.out hf3 (fun i hi => by have := HQ.out; omega))
      simp only [List.length_cons, List.length_nil, Nat.add_zero, Nat.reduceAdd, Nat.zero_add] at *
      clear ho hv hc hf3
      go_wp2_with fail
      go_ret
      exact ⟨rfl, HG3.out⟩
end Go.Proofs.Ytponbjocaackcaa
