/- The document's lanes: Offer. -/
import Derived.Test.YtponbjocaackcaaLRef
namespace Go.Proofs.Ytponbjocaackcaa
open Go.RowKit Go.Conc

section
variable {w : World} {B : Nat} {X : Nat → Prop} {r room : Nat} {pu : Option Addr} {cu gu : Nat} {ps : Option Addr} {cs gs : Nat} {U S : List Value} {p : Nat} {sh : Bool}

set_option maxRecDepth 100000 in
set_option maxHeartbeats 4000000 in
theorem ROffer_urgent (h : RefAt w B X r room pu cu gu ps cs gs U S p false) (hX : ∀ k, X k → k < w.heap.size) (hB : B ≤ w.heap.size) (hl : U.length ≤ 1000000) (hroom : room ≤ 1024) (x : Int) :
    Calls Try.prog 9 #[.pointer (some ⟨r, 0, none⟩), .int .i64 x, .bool true] w (ROfferPost B X r room U S p false (.int .i64 x) true w) := by
  obtain ⟨x0, x1, x2, x3, x4, x5⟩ := cells5 h.box
  obtain ⟨n, hn⟩ : ∃ n, U.length = n := ⟨_, rfl⟩
  have f0 := x5 0
  have H := Lib.hid h; have HX := Lib.hid hX; have HB := Lib.hid hB; have HN := Lib.hid hn; have HL := Lib.hid hl
  rw [hn] at x0
  have hn6 : n ≤ 1000000 := by omega
  clear x5 hX hB hl h
  by_cases hf : n < room
  · have d1 : decide ((room : Int) ≤ n) = false := decide_eq_false (by omega)
    have d1' : decide (room ≤ n) = false := decide_eq_false (by omega)
    have HO := Lib.hid (loffer_urgent (room := room) (U := U) (S := S) (x := .int .i64 x) (by omega))
    obtain ⟨gl, HGL⟩ : ∃ gl, Hid ((gl = gu ∧ pu ≠ none) ∨ (pu = none ∧ w.heap.size ≤ gl)) := by
      by_cases h0 : pu = none
      · exact ⟨w.heap.size, Lib.hid (.inr ⟨h0, Nat.le_refl _⟩)⟩
      · exact ⟨gu, Lib.hid (.inl ⟨rfl, h0⟩)⟩
    have HW : Hid (∀ k, WinO 3 (w.drewN k) pu cu gl U) := Lib.hid fun k => by
      rcases HGL.out with ⟨e, h0⟩ | ⟨h0, -⟩
      · rw [e]; exact H.out.fu.win
      · rcases H.out.fu with ⟨e1, e2, e3⟩ | ⟨a, -⟩
        · exact .inl ⟨e1, e2, e3⟩
        · exact absurd h0 a
    clear hn hf
    go_enter Try.func9, Try.ntmps9
    go_wp2_with fail
    go_quiet (fail)
    go_wp2_with (at_builtin; go_loud (refine wpList_appW (t := 29) (T := 3) Try.underlying29 elemI rfl (by omega) rfl _ _ rfl gl U (.int .i64 x) rfl pu n cu HN.out.symm rfl (HW.out _) _ rfl rfl HL.out ?_))
    intro p' n' c' gl' w2 hn' hw2 hgl2 hf2
    have hb2 : w2.heap[r]? = _ := hf2.keep (show (w.drewN nq).heap[r]? = _ from H.out.box) (fun e => by
      have hr := hlt H.out.box
      rcases HGL.out with ⟨e2, h0⟩ | ⟨-, e2⟩
      · rcases H.out.fu with ⟨e1, -⟩ | ⟨-, -, -, a, -⟩
        · exact h0 e1
        · omega
      · omega)
    obtain ⟨z0, z1, z2, z3, z4, z5⟩ := cells5 hb2
    have g0 := z5 0
    obtain ⟨m, hm⟩ : ∃ m, n' = m := ⟨_, rfl⟩
    have HM := Lib.hid (show m = U.length + 1 by omega)
    have HW2 := Lib.hid hw2; have HGL2 := Lib.hid hgl2; have HF2 := Lib.hid hf2
    rw [hm]
    clear hn' hw2 hgl2 hf2 hb2 z5 x0 x1 x2 x3 x4 f0 hm
    go_wp2_with fail
    go_ret
    obtain ⟨k1, k2⟩ := H.out.moreU HX.out HB.out (w1 := w.drewN nq) (gb_drewN (gb_refl _ _) _) (by simpa using HGL.out) HW2.out (by simpa using HGL2.out) HF2.out rfl
    refine ⟨by rw [HO.out]; rfl, ?_, ?_⟩
    · rw [HO.out, HM.out]; exact k1
    · rw [HM.out]; exact k2
  · have d1 : decide ((room : Int) ≤ n) = true := decide_eq_true (by omega)
    have d1' : decide (room ≤ n) = true := decide_eq_true (by omega)
    have HO : Hid (LOffer room false U S (Value.int .i64 x) true = (15, U, S)) := Lib.hid (by simp [LOffer]; omega)
    clear hn hf
    go_enter Try.func9, Try.ntmps9
    go_wp2_with fail
    go_quiet (fail)
    go_wp2_with fail
    go_ret
    exact ⟨by rw [HO.out]; rfl, by rw [HO.out]; exact ⟨_, _, _, _, _, _, H.out.keptS (P := fun _ => False) (Fr2.none (gb_drewN (gb_refl _ _) _)) (fun _ _ _ h => h)⟩, Fr2.none (gb_drewN (gb_refl _ _) _)⟩

set_option maxRecDepth 100000 in
set_option maxHeartbeats 4000000 in
theorem ROffer_usual (h : RefAt w B X r room pu cu gu ps cs gs U S p false) (hX : ∀ k, X k → k < w.heap.size) (hB : B ≤ w.heap.size) (hl : S.length ≤ 1000000) (hroom : room ≤ 1024) (x : Int) :
    Calls Try.prog 9 #[.pointer (some ⟨r, 0, none⟩), .int .i64 x, .bool false] w (ROfferPost B X r room U S p false (.int .i64 x) false w) := by
  obtain ⟨x0, x1, x2, x3, x4, x5⟩ := cells5 h.box
  obtain ⟨n, hn⟩ : ∃ n, S.length = n := ⟨_, rfl⟩
  have f0 := x5 1
  have H := Lib.hid h; have HX := Lib.hid hX; have HB := Lib.hid hB; have HN := Lib.hid hn; have HL := Lib.hid hl
  rw [hn] at x1
  have hn6 : n ≤ 1000000 := by omega
  clear x5 hX hB hl h
  by_cases hf : n < room
  · have d1 : decide ((room : Int) ≤ n) = false := decide_eq_false (by omega)
    have d1' : decide (room ≤ n) = false := decide_eq_false (by omega)
    have HO := Lib.hid (loffer_usual (room := room) (U := U) (S := S) (x := .int .i64 x) (by omega))
    obtain ⟨gl, HGL⟩ : ∃ gl, Hid ((gl = gs ∧ ps ≠ none) ∨ (ps = none ∧ w.heap.size ≤ gl)) := by
      by_cases h0 : ps = none
      · exact ⟨w.heap.size, Lib.hid (.inr ⟨h0, Nat.le_refl _⟩)⟩
      · exact ⟨gs, Lib.hid (.inl ⟨rfl, h0⟩)⟩
    have HW : Hid (∀ k, WinO 3 (w.drewN k) ps cs gl S) := Lib.hid fun k => by
      rcases HGL.out with ⟨e, h0⟩ | ⟨h0, -⟩
      · rw [e]; exact H.out.fs.win
      · rcases H.out.fs with ⟨e1, e2, e3⟩ | ⟨a, -⟩
        · exact .inl ⟨e1, e2, e3⟩
        · exact absurd h0 a
    clear hn hf
    go_enter Try.func9, Try.ntmps9
    go_wp2_with fail
    go_quiet (fail)
    go_wp2_with (at_builtin; go_loud (refine wpList_appW (t := 29) (T := 3) Try.underlying29 elemI rfl (by omega) rfl _ _ rfl gl S (.int .i64 x) rfl ps n cs HN.out.symm rfl (HW.out _) _ rfl rfl HL.out ?_))
    intro p' n' c' gl' w2 hn' hw2 hgl2 hf2
    have hb2 : w2.heap[r]? = _ := hf2.keep (show (w.drewN nq).heap[r]? = _ from H.out.box) (fun e => by
      have hr := hlt H.out.box
      rcases HGL.out with ⟨e2, h0⟩ | ⟨-, e2⟩
      · rcases H.out.fs with ⟨e1, -⟩ | ⟨-, -, -, a, -⟩
        · exact h0 e1
        · omega
      · omega)
    obtain ⟨z0, z1, z2, z3, z4, z5⟩ := cells5 hb2
    have g0 := z5 1
    obtain ⟨m, hm⟩ : ∃ m, n' = m := ⟨_, rfl⟩
    have HM := Lib.hid (show m = S.length + 1 by omega)
    have HW2 := Lib.hid hw2; have HGL2 := Lib.hid hgl2; have HF2 := Lib.hid hf2
    rw [hm]
    clear hn' hw2 hgl2 hf2 hb2 z5 x0 x1 x2 x3 x4 f0 hm
    go_wp2_with fail
    go_ret
    obtain ⟨k1, k2⟩ := H.out.moreS HX.out HB.out (w1 := w.drewN nq) (gb_drewN (gb_refl _ _) _) (by simpa using HGL.out) HW2.out (by simpa using HGL2.out) HF2.out rfl
    refine ⟨by rw [HO.out]; rfl, ?_, ?_⟩
    · rw [HO.out, HM.out]; exact k1
    · rw [HM.out]; exact k2
  · have d1 : decide ((room : Int) ≤ n) = true := decide_eq_true (by omega)
    have d1' : decide (room ≤ n) = true := decide_eq_true (by omega)
    have HO : Hid (LOffer room false U S (Value.int .i64 x) false = (15, U, S)) := Lib.hid (by simp [LOffer]; omega)
    clear hn hf
    go_enter Try.func9, Try.ntmps9
    go_wp2_with fail
    go_quiet (fail)
    go_wp2_with fail
    go_ret
    exact ⟨by rw [HO.out]; rfl, by rw [HO.out]; exact ⟨_, _, _, _, _, _, H.out.keptS (P := fun _ => False) (Fr2.none (gb_drewN (gb_refl _ _) _)) (fun _ _ _ h => h)⟩, Fr2.none (gb_drewN (gb_refl _ _) _)⟩
end

theorem ROffer_c {w : World} {B : Nat} {X : Nat → Prop} {r room : Nat} {U S : List Value} {p : Nat} {sh : Bool} (h : RefAtE w B X r room U S p sh) (hX : ∀ k, X k → k < w.heap.size) (hB : B ≤ w.heap.size) (hl : U.length ≤ 1000000 ∧ S.length ≤ 1000000) (hroom : room ≤ 1024) (x : Int) (urgent : Bool) :
    Calls Try.prog 9 #[.pointer (some ⟨r, 0, none⟩), .int .i64 x, .bool urgent] w (ROfferPost B X r room U S p sh (.int .i64 x) urgent w) := by
  obtain ⟨pu, cu, gu, ps, cs, gs, h⟩ := h
  cases sh with
  | true => exact ROffer_shut h x urgent
  | false => cases urgent with
    | true => exact ROffer_urgent h hX hB hl.1 hroom x
    | false => exact ROffer_usual h hX hB hl.2 hroom x
end Go.Proofs.Ytponbjocaackcaa
