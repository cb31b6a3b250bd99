/- The document's answer: signs. -/
import Derived.Test.YtohdpodnfgdnbaaDoorERef2
namespace Go.Proofs.YtohdpodnfgdnbaaDoor
open Go.RowKit

def IntGbN (v : Nat) (w : World) (e : Ending) (w' : World) : Prop := e = .returned (.int .i64 (v : Int)) ∧ w.grownBy w' none

theorem two_prefix {s : ByteArray} {p : Nat} {g : List UInt8} (hg : g.length = 2) : g = (s.extract p (p + 2)).data.toList ↔ g.isPrefixOf (s.data.toList.drop p) = true := by
  rw [List.isPrefixOf_iff_prefix, List.prefix_iff_eq_take, hg, ext_list, ← List.take_drop]

theorem two_short {s : ByteArray} {p : Nat} {g : List UInt8} (hg : g.length = 2) (h : s.size ≤ p + 1) : g.isPrefixOf (s.data.toList.drop p) = false := by
  rw [← Bool.not_eq_true]
  intro h2
  have := pre_len h2
  rw [hg, List.length_drop, list_len] at this
  omega

set_option maxRecDepth 100000 in
set_option maxHeartbeats 8000000 in
theorem rsign_c (s : ByteArray) (p : Nat) (w : World) (hs : s.size ≤ 1000000) (hp : p < s.size) : Calls Tryd.prog 33 #[.string s, .int .i64 (p : Int)] w (IntGbN (signN (s.data.toList.drop p)) w) := by
  have HDR := Lib.hid (drop_at hp)
  have HTL := Lib.hid (show ∀ g ∈ twosL, g.length = 2 by decide)
  have hw1 : IntKind.i64.wrap ((p : Int) + 1) = (p : Int) + 1 := IntWalk.i64_in _ (by omega)
  have hw2 : IntKind.i64.wrap ((p : Int) + 2) = (p : Int) + 2 := IntWalk.i64_in _ (by omega)
  go_enter Tryd.func33, Tryd.ntmps33
  go_wp2_with (refine wpList_store_row rfl 73 _ _ rfl w.heap.size (twosL.map strV).toArray rfl rfl 73 _ (heap_alloc_new w _) (by kernel_rfl) rfl (ones_arr _) ?_)
  rw [World.setRow_alloc_new]
  have HW := Lib.hid (World.grownBy_alloc w (.cells (twosL.map strV).toArray 73) none)
  have HCE : Hid (∀ k x, twosL[k]? = some x → (w.alloc (.cells (twosL.map strV).toArray 73)).cell? ⟨w.heap.size, k, none⟩ = some (.string ⟨x.toArray⟩)) := Lib.hid (fun k x hx => cell_arr hx)
  have HZ : Hid (w.heap.size < (w.alloc (.cells (twosL.map strV).toArray 73)).heap.size) := Lib.hid (by simp)
  generalize w.alloc (.cells (twosL.map strV).toArray 73) = W at *
  go_wp2
  go_loopw [6] (fun i wr => ∃ k : Nat, k ≤ 6 ∧ i = .int .i64 k ∧ Hid (∀ g ∈ twosL.take k, g.isPrefixOf (s.data.toList.drop p) = false) ∧ Hid (W.grownBy wr none)) (fun i _ => 6 - (intOf i).toNat)
  case atStart => exact ⟨0, Nat.zero_le _, rfl, Lib.hid (fun g hg => by cases hg), gb_refl _ _⟩
  case round =>
    obtain ⟨k, hk, rfl, HC, HG⟩ := hrel
    by_cases hlt : k < 6
    · have d1 : decide ((k : Int) < 6) = true := decide_eq_true (by omega)
      have d1' : decide (k < 6) = true := decide_eq_true hlt
      obtain ⟨x, hx⟩ : ∃ x, twosL[k]? = some x := ⟨twosL[k]'hlt, List.getElem?_eq_getElem _⟩
      have hxm := List.mem_of_getElem? hx
      have hxl := HTL.out x hxm
      have hc := HG.out.cell (HCE.out k x hx) (by simp)
      obtain ⟨y, hy⟩ : ∃ y : ByteArray, (⟨x.toArray⟩ : ByteArray) = y := ⟨_, rfl⟩
      have hyl : y.toList = x := by rw [toList_data, ← hy]
      rw [hy] at hc
      have step : x.isPrefixOf (s.data.toList.drop p) = false → ∀ g ∈ twosL.take (k + 1), g.isPrefixOf (s.data.toList.drop p) = false := fun hne g hg => by
        rw [List.take_add_one, hx] at hg
        rcases List.mem_append.1 hg with hg | hg
        · exact HC.out g hg
        · simp at hg; subst hg; exact hne
      by_cases hlt2 : p + 1 < s.size
      · have d3 : decide ((p : Int) + 1 < (s.size : Int)) = true := decide_eq_true (by omega)
        have d3' : decide (p + 1 < s.size) = true := decide_eq_true hlt2
        cases hpre : x.isPrefixOf (s.data.toList.drop p)
        · have d2 : ((s.extract p (p + 2)).toList == y.toList) = false := by
            rw [hyl, toList_data, beq_eq_false_iff_ne]
            intro e
            have := (two_prefix hxl).1 e.symm
            rw [hpre] at this; cases this
          have HR := Lib.hid (step hpre)
          clear step hpre hx hxm hxl hyl hy HDR HTL
          go_wp2_with fail
          go_quiet (fail)
          go_wp2_with fail
          go_roundw
          case rel => exact ⟨k + 1, by omega, by go_num, HR, Lib.hid (gb_drewN HG.out _)⟩
          case measure => (simp [intOf] <;> omega)
        · have d2 : ((s.extract p (p + 2)).toList == y.toList) = true := by
            rw [hyl, toList_data, ← (two_prefix hxl).2 hpre]; simp
          have HR : Hid (signN (s.data.toList.drop p) = 2) := Lib.hid (signN_two hxm hpre)
          clear step hpre hx hxm hxl hyl hy HDR HTL
          go_wp2_with fail
          go_quiet (fail)
          go_wp2_with fail
          go_ret
          exact ⟨by rw [HR.out]; rfl, gb_trans HW.out (gb_drewN HG.out _)⟩
      · have d3 : decide ((p : Int) + 1 < (s.size : Int)) = false := decide_eq_false (by omega)
        have d3' : decide (p + 1 < s.size) = false := decide_eq_false hlt2
        have HR := Lib.hid (step (two_short hxl (by omega)))
        clear step hx hxm hxl hyl hy HDR HTL hc
        go_wp2_with fail
        go_quiet (fail)
        go_wp2_with fail
        go_roundw
        case rel => exact ⟨k + 1, by omega, by go_num, HR, Lib.hid (gb_drewN HG.out _)⟩
        case measure => (simp [intOf] <;> omega)
    · obtain rfl : k = 6 := by omega
      have HNO : Hid (∀ g ∈ twosL, g.isPrefixOf (s[p] :: s.data.toList.drop (p + 1)) = false) := Lib.hid (by rw [← HDR.out]; exact HC.out)
      go_wp2_with fail
      have HOO : Hid ((⟨#[40, 41, 123, 125, 44, 58, 59, 46, 43, 45, 42, 47, 37, 61, 60, 62]⟩ : ByteArray).data.toList = onesL) := Lib.hid rfl
      have hOs : (⟨#[40, 41, 123, 125, 44, 58, 59, 46, 43, 45, 42, 47, 37, 61, 60, 62]⟩ : ByteArray).size = 16 := rfl
      generalize (⟨#[40, 41, 123, 125, 44, 58, 59, 46, 43, 45, 42, 47, 37, 61, 60, 62]⟩ : ByteArray) = O at *
      have HOS := Lib.hid hOs
      clear hOs
      go_loopw [8] (fun i wr2 => ∃ k : Nat, k ≤ 16 ∧ i = .int .i64 k ∧ Hid (∀ b ∈ onesL.take k, s[p] ≠ b) ∧ Hid (W.grownBy wr2 none)) (fun i _ => 16 - (intOf i).toNat)
      case atStart => exact ⟨0, Nat.zero_le _, rfl, Lib.hid (fun g hg => by cases hg), HG⟩
      case round =>
        clear HG HC
        obtain ⟨k, hk, rfl, HC, HG⟩ := hrel
        by_cases hko : k < O.size
        · have d1 : decide ((k : Int) < (O.size : Int)) = true := decide_eq_true (by omega)
          have d1' : decide (k < O.size) = true := decide_eq_true hko
          have hk16 : k < 16 := by have := HOS.out; omega
          have hx := byte_at hko
          rw [HOO.out] at hx
          by_cases he : s[p] = O[k]
          · have d2 : ((s[p].toNat : Int) == (O[k].toNat : Int)) = true := by rw [he]; simp
            have HR : Hid (signN (s.data.toList.drop p) = 1) := Lib.hid (by rw [HDR.out]; exact signN_one HNO.out (by rw [he]; exact List.mem_of_getElem? hx))
            clear hx he HDR HTL
            go_wp2_with fail
            go_quiet (fail)
            go_wp2_with fail
            go_ret
            exact ⟨by rw [HR.out]; rfl, gb_trans HW.out (gb_drewN HG.out _)⟩
          · have d2 : ((s[p].toNat : Int) == (O[k].toNat : Int)) = false := byte_ne O[k] rfl he
            have HR : Hid (∀ b ∈ onesL.take (k + 1), s[p] ≠ b) := Lib.hid (fun b hb => by
              rw [List.take_add_one, hx] at hb
              rcases List.mem_append.1 hb with hb | hb
              · exact HC.out b hb
              · simp at hb; subst hb; exact he)
            clear hx he HDR HTL
            go_wp2_with fail
            go_quiet (fail)
            go_wp2_with fail
            go_roundw
            case rel => exact ⟨k + 1, by omega, by go_num, HR, Lib.hid (gb_drewN HG.out _)⟩
            case measure => (simp [intOf] <;> omega)
        · obtain rfl : k = 16 := by have := HOS.out; omega
          have d1 : decide ((16 : Int) < (O.size : Int)) = false := decide_eq_false (by have := HOS.out; omega)
          have d1' : decide (16 < O.size) = false := decide_eq_false hko
          have HR : Hid (signN (s.data.toList.drop p) = 0) := Lib.hid (by rw [HDR.out]; exact signN_none HNO.out (fun h => HC.out _ h rfl))
          go_wp2_with fail
          go_ret
          exact ⟨by rw [HR.out]; rfl, gb_trans HW.out HG.out⟩
end Go.Proofs.YtohdpodnfgdnbaaDoor
