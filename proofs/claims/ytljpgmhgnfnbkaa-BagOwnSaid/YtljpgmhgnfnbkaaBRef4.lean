/- The document's rising list of numbers, each once. -/
import Derived.Test.YtljpgmhgnfnbkaaBRef3
namespace Go.Proofs.Ytljpgmhgnfnbkaa
open Go.RowKit Go.Sort

def OfRel (zs : List Int) (k : Nat) (v : Value) (w wr : World) : Prop :=
  ∃ (O : List Int) (p : Option Addr) (c : Nat), v = .slice p O.length c ∧ SetOf O (zs.take k) ∧ O.length ≤ k ∧ O.length ≤ c ∧ c ≤ maxLen ∧ LAt wr p O ∧ w.grownBy wr none

set_option maxRecDepth 100000 in
set_option maxHeartbeats 2000000 in
theorem ROf_c (p : Option Addr) (c : Nat) (zs : List Int) (w : World) (hl : zs.length ≤ 10000) (h : LAt w p zs) : Calls Try.prog 11 #[.slice p zs.length c] w (ListPost w (fun S => SetOf S zs ∧ S.length ≤ zs.length)) := by
  obtain ⟨n, hn⟩ : ∃ n, zs.length = n := ⟨_, rfl⟩
  have HN := Lib.hid hn; have HA := Lib.hid h
  rw [hn] at hl ⊢
  clear hn h
  go_enter Try.func11, Try.ntmps11
  go_wp2_with fail
  go_loopw [3, 4] (fun v i wr => ∃ k : Nat, k ≤ n ∧ i = .int .i64 k ∧ Hid (OfRel zs k v w wr)) (fun _ i _ => n - (intOf i).toNat)
  case atStart => exact ⟨0, by omega, rfl, Lib.hid ⟨[], none, 0, rfl, ⟨by simp [Asc], by simp⟩, by simp, by simp, by omega, .inl rfl, gb_refl _ _⟩⟩
  case round =>
    obtain ⟨k, hk, rfl, HR⟩ := hrel
    obtain ⟨O, p3, c3, rfl, hset, hOk, hOc, hcm, hat, hgr⟩ := HR.out
    by_cases hlt : k < n
    · have hne1 : zs ≠ [] := fun e => by have := HN.out; rw [e] at this; simp at this; omega
      obtain ⟨g1, o1, rfl, hg1, hc1⟩ := HA.out.resolve_left hne1
      have hck := hgr.cell (hc1 k (by have := HN.out; omega)) (by simp)
      have HT := Lib.hid (take_more (l := zs) (k := k) (by have := HN.out; omega)).1
      have HSET := Lib.hid hset; have HOK := Lib.hid hOk; have HG := Lib.hid hgr
      clear hc1 hne1
      generalize zs.getD k 0 = y at *
      have HC := Lib.hid (RPut_c p3 c3 O y wr (by omega) hOc hcm hset.1 hat)
      clear hset hOk hOc hcm hat hgr HR
      generalize hOl : O.length = m at *
      have HOL := Lib.hid hOl
      clear hOl
      go_wp2_with (go_at_call 48; refine HC.out.mono ?_; rintro e w2 ⟨S, p4, n4, c4, rfl, h1, h2, ⟨p5, c5, h3, h4, h5, h6⟩, h7, h8⟩; injection h3 with e1 e2 e3; subst e1; subst e2; subst e3; have H1 := Lib.hid h1; have H2 := Lib.hid h2; have H4 := Lib.hid h4; have H5 := Lib.hid h5; have H6 := Lib.hid h6; have H7 := Lib.hid h7; have H8 := Lib.hid h8; clear h1 h2 h4 h5 h6 h7 h8)
      go_roundw
      case rel => exact ⟨k + 1, by omega, by go_num, Lib.hid ⟨S, p4, c4, rfl, ⟨H1.out, fun x => by rw [H2.out, HT.out, List.mem_append, HSET.out.2]; simp; exact Or.comm⟩, by have := H7.out; have := HOK.out; have := HOL.out; omega, H4.out, H5.out, H6.out, gb_trans HG.out H8.out⟩⟩
      case measure => simp [intOf]; omega
    · obtain rfl : k = n := by omega
      rw [List.take_of_length_le (by have := HN.out; omega)] at hset
      have HF : Hid (ListPost w (fun S => SetOf S zs ∧ S.length ≤ k) (.returned (.slice p3 O.length c3)) wr) := Lib.hid ⟨O, _, _, _, rfl, ⟨hset, hOk⟩, ⟨p3, c3, rfl, hOc, hcm, hat⟩, hgr⟩
      clear hset hOk hOc hcm hat hgr HR
      generalize O.length = m at *
      go_wp2_with fail
      go_ret
      exact HF.out
end Go.Proofs.Ytljpgmhgnfnbkaa
