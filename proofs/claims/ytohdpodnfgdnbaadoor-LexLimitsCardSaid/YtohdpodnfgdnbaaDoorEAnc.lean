/- The law's anchor: the document's example of layer 5. -/
import Derived.Test.YtohdpodnfgdnbaaDoorEWhole
namespace Go.Proofs.YtohdpodnfgdnbaaDoor
open Go.RowKit

def ancT : List Tok := [⟨2, [], [108, 101, 116], 0⟩, ⟨1, [32], [120], 4⟩, ⟨4, [], [61], 5⟩, ⟨4, [], [45], 6⟩, ⟨3, [], [49], 7⟩, ⟨5, [32, 45, 45, 122], [], 12⟩]
theorem anc_all : allE [108, 101, 116, 32, 120, 61, 45, 49, 32, 45, 45, 122] = (ancT, 0, 0) := by kernel_rfl

set_option maxRecDepth 100000 in
set_option maxHeartbeats 4000000 in
theorem anchor_c (w : World) (hla : LaidE w) : Calls Tryd.prog 7 #[] w (ValPost (.bool true) w) := by
  have HP := Lib.hid (Lex_c ⟨#[108, 101, 116, 32, 120, 61, 45, 49, 32, 45, 45, 122]⟩ w (by decide) hla)
  go_enter Tryd.func7, Tryd.ntmps7
  go_wp2_with fail
  refine HP.out.mono ?_
  rintro e w1 ⟨hg, h⟩
  rw [anc_all, if_neg (by decide), if_neg (by decide)] at h
  obtain ⟨q, c, rfl, ht, -, -⟩ := h
  obtain ⟨g, off, rfl, hgl, hc⟩ := ht.resolve_left (by simp [ancT])
  obtain ⟨a0, a1, a2, a3⟩ := hc 0 _ rfl
  obtain ⟨b0, b1, b2, b3⟩ := hc 1 _ rfl
  obtain ⟨d0, d1, d2, d3⟩ := hc 3 _ rfl
  obtain ⟨f0, f1, f2, f3⟩ := hc 4 _ rfl
  obtain ⟨h0, h1, h2, h3⟩ := hc 5 _ rfl
  obtain ⟨x1, hx1⟩ : ∃ x : ByteArray, (⟨#[120]⟩ : ByteArray) = x := ⟨_, rfl⟩
  obtain ⟨x2, hx2⟩ : ∃ x : ByteArray, (⟨#[45]⟩ : ByteArray) = x := ⟨_, rfl⟩
  obtain ⟨x3, hx3⟩ : ∃ x : ByteArray, (⟨#[32, 45, 45, 122]⟩ : ByteArray) = x := ⟨_, rfl⟩
  have e1 : (x1.toList == [120]) = true := by rw [← hx1, toList_data]; rfl
  have e2 : (x2.toList == [45]) = true := by rw [← hx2, toList_data]; rfl
  have e3 : (x3.toList == [32, 45, 45, 122]) = true := by rw [← hx3, toList_data]; rfl
  change w1.cell? _ = some (.string ⟨#[120]⟩) at b2
  change w1.cell? _ = some (.string ⟨#[45]⟩) at d2
  change w1.cell? _ = some (.string ⟨#[32, 45, 45, 122]⟩) at h1
  rw [hx1] at b2
  rw [hx2] at d2
  rw [hx3] at h1
  have HG := Lib.hid hg
  simp only [Nat.zero_mul, Nat.one_mul, Nat.add_zero, Nat.reduceMul] at a0 b2 d2 f0 h1
  clear hc ht hg HP hx1 hx2 hx3 a1 a2 a3 b0 b1 b3 d0 d1 d3 f1 f2 f3 h0 h2 h3
  rw [show ancT.length = 6 from rfl]
  go_wp2_with fail

  go_ret
  exact ⟨rfl, gb_alloc HG.out _⟩
end Go.Proofs.YtohdpodnfgdnbaaDoor
