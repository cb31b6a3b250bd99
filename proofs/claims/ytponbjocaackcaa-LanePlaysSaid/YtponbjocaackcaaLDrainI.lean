/- Lanes: Drain. -/
import Derived.Test.YtponbjocaackcaaLTakeI
import Derived.Lib.JoinLaws
namespace Go.Proofs.Ytponbjocaackcaa
open Go.RowKit Go.Conc

theorem drains_all : ∀ (n : Nat) (U S : List Value) (p : Nat), U.length + S.length ≤ n → LGood S p → ∃ L, Drains U S p L
  | 0, U, S, p, h, hg => by
    have h1 : U = [] := List.eq_nil_of_length_eq_zero (by omega)
    have h2 : S = [] := List.eq_nil_of_length_eq_zero (by omega)
    subst h1; subst h2
    exact ⟨[], .none (by rw [ltake_empty]; rfl)⟩
  | n + 1, U, S, p, h, hg => by
    rcases hx : (LTake U S p).1 with _ | x
    · exact ⟨[], .none hx⟩
    · have := LTake.len hx
      obtain ⟨L, hL⟩ := drains_all n (LTake U S p).2.1 (LTake U S p).2.2.1 (LTake U S p).2.2.2 (by omega) (LTake.good hg)
      exact ⟨x :: L, .some hx hL⟩

theorem Drains.mem {U S : List Value} {p : Nat} {L : List Value} (h : Drains U S p L) : ∀ x ∈ L, x ∈ U ∨ x ∈ S := by
  induction h with
  | none _ => intro x hx; cases hx
  | @some U S p y L hy hd ih =>
    intro x hx
    have hsub : (∀ z, z ∈ (LTake U S p).2.1 → z ∈ U) ∧ (∀ z, z ∈ (LTake U S p).2.2.1 → z ∈ S) ∧ (y ∈ U ∨ y ∈ S) := by
      by_cases hp : p < 4
      · cases U with
        | nil =>
          rw [ltake_empty] at hy ⊢
          cases S with
          | nil => cases hy
          | cons a S => simp at hy; subst hy; exact ⟨fun z h => h, fun z h => List.mem_cons_of_mem _ h, .inr (List.mem_cons_self ..)⟩
        | cons a U =>
          rw [ltake_urgent hp] at hy ⊢
          simp at hy; subst hy
          exact ⟨fun z h => List.mem_cons_of_mem _ h, fun z h => h, .inl (List.mem_cons_self ..)⟩
      · rw [ltake_late hp] at hy ⊢
        cases S with
        | nil => cases hy
        | cons a S => simp at hy; subst hy; exact ⟨fun z h => h, fun z h => List.mem_cons_of_mem _ h, .inr (List.mem_cons_self ..)⟩
    rcases List.mem_cons.1 hx with rfl | hx
    · exact hsub.2.2
    · exact (ih x hx).imp (hsub.1 x) (hsub.2.1 x)

/-- What is pending at a round's head: taken, or nothing more. -/
def Pending (T : TypeId) (z : Value) (q u v room : Nat) (sh : Bool) (wr : World) (x : Value) (ok : Bool) (R : List Value) : Prop :=
  match R with
  | [] => ok = false ∧ LaneAt T wr q u v room [] [] 0 sh
  | y :: R => ok = true ∧ x = y ∧ ∃ U S p, LaneAt T wr q u v room U S p sh ∧ Drains U S p R

theorem pending_of {T : TypeId} {z : Value} {q u v room : Nat} {sh : Bool} {U S : List Value} {p : Nat} {R : List Value} {w' : World} (hg : LGood S p) (hd : Drains U S p R)
    (hl : LaneAt T w' q u v room (LTake U S p).2.1 (LTake U S p).2.2.1 (LTake U S p).2.2.2 sh) : Pending T z q u v room sh w' ((LTake U S p).1.getD z) (LTake U S p).1.isSome R := by
  cases hd with
  | none hn =>
    obtain ⟨-, -, e⟩ := LTake.none_good hg hn
    rw [e] at hl ⊢
    exact ⟨rfl, hl⟩
  | some hs hd =>
    rw [hs]
    exact ⟨rfl, rfl, _, _, _, hl, hd⟩

theorem Pending.kept {T : TypeId} {z : Value} {q u v room : Nat} {sh : Bool} {wr w' : World} {x : Value} {ok : Bool} {R : List Value} {P : Nat → Prop} (h : Pending T z q u v room sh wr x ok R) (hg : Fr2 P wr w') (h1 : ¬ P q) (h2 : ¬ P u) (h3 : ¬ P v) : Pending T z q u v room sh w' x ok R := by
  cases R with
  | nil => exact ⟨h.1, h.2.keptS hg h1 h2 h3⟩
  | cons y R =>
    obtain ⟨a, b, U, S, p, c, d⟩ := h
    exact ⟨a, b, U, S, p, c.keptS hg h1 h2 h3, d⟩

def lenOf : Value → Nat
  | .slice _ n _ => n
  | _ => 0

def DrainPost (T E : TypeId) (q u v room : Nat) (sh : Bool) (L : List Value) (w : World) (e : Ending) (w' : World) : Prop :=
  ∃ p c, e = .returned (.slice p L.length c) ∧ OwnV E w' w.heap.size (.slice p L.length c) L ∧ LaneAt T w' q u v room [] [] 0 sh ∧ Fr2 (fun k => k = q ∨ k = u ∨ k = v) w w'

set_option maxRecDepth 100000 in
set_option maxHeartbeats 4000000 in
theorem Drain_c_int {w : World} {q u v room : Nat} {U S : List Value} {p : Nat} {sh : Bool} (h : LaneAt 54 w q u v room U S p sh) (L : List Value) (hL : Drains U S p L) (hk : ∀ x ∈ L, ∃ k, x = Value.int .i64 k) :
    Calls Try.prog 13 #[.pointer (some ⟨q, 0, none⟩)] w (DrainPost 54 3 q u v room sh L w) := by
  obtain ⟨a, ha⟩ : ∃ a, U.length = a := ⟨_, rfl⟩
  obtain ⟨b, hb⟩ : ∃ b, S.length = b := ⟨_, rfl⟩
  obtain ⟨x0, x1, x2, x3, -⟩ := cells4 h.box
  have hsm := h.small
  have hlen := hL.len h.good
  have l1 := lenchan_int (h.ur.drewN 0) a ha
  have l2 := lenchan_int (h.us.drewN 0) b hb
  have l3 : ∀ ty, (Builtin.len_ #[52] ty #[.chan (some u)]).run Try.prog w.drew = .ok (.int .i64 (a : Nat)) w.drew := lenchan_int (w := w.drew) h.ur a ha
  have l4 : ∀ ty, (Builtin.len_ #[52] ty #[.chan (some v)]).run Try.prog w.drew = .ok (.int .i64 (b : Nat)) w.drew := lenchan_int (w := w.drew) h.us b hb
  have l5 := lenchan_int h.ur a ha
  have l6 := lenchan_int h.us b hb
  have hw : IntKind.i64.wrap ((a : Int) + (b : Int)) = (a : Int) + (b : Int) := IntWalk.i64_in _ (by omega)
  have hmk : ∀ W, (Instr.makeSlice 29 (.int .i64 0) (.int .i64 ((a : Int) + (b : Int)))).run Try.prog W = .ok (.slice (some ⟨W.heap.size, 0, none⟩) 0 (a + b)) (W.alloc (.cells (madeCells #[.int .i64 0] (a + b)) 3)) := fun W => by
    have := run_make_room (P := Try.prog) 29 3 (.int .i64 0) 8 Try.underlying29 elemI rfl .i64 .i64 (a + b) (by omega) (by omega) W
    rwa [show ((a + b : Nat) : Int) = (a : Int) + (b : Int) by omega] at this
  have hga := World.grownBy_alloc w (.cells (madeCells #[.int .i64 0] (a + b)) 3) none
  have hlm := h.lt
  have h2 := h.kept hga
  have HT := Lib.hid (Take_c_int (w := (w.alloc (.cells (madeCells #[.int .i64 0] (a + b)) 3)).drew) (h2.kept (gb_drew (gb_refl _ _))))
  have HOW : Hid (OwnV 3 ((w.alloc (.cells (madeCells #[.int .i64 0] (a + b)) 3)).drew) w.heap.size (.slice (some ⟨w.heap.size, 0, none⟩) 0 (a + b)) []) := Lib.hid (World.ownsRow_made w (madeCells #[.int .i64 0] (a + b)) (a + b) (Nat.le_refl _) (by unfold maxLen; omega) (by simp [size_madeCells]))
  have HGA := Lib.hid hga; have HG := Lib.hid h.good; have HD := Lib.hid hL; have HK := Lib.hid hk; have HLM := Lib.hid hlm; have HLL : Hid (L.length ≤ 2048) := Lib.hid (by omega)
  obtain ⟨ll, hll⟩ : ∃ ll, L.length = ll := ⟨_, rfl⟩
  have HLEN := Lib.hid hll
  clear h hL hk hga h2 ha hb hsm hlen x2 x3 hlm hll
  go_enter Try.func13, Try.ntmps13
  go_wp2_with fail
  go_region
  all_goals
    go_wp2_with fail
    refine HT.out.mono ?_
    rintro e w2 ⟨rfl, hl, hfr, hs⟩
    have hp := pending_of (z := .int .i64 0) HG.out HD.out hl
    have HP := Lib.hid hp; have HFR := Lib.hid hfr
    obtain ⟨x, hx⟩ : ∃ x, (LTake U S p).1.getD (.int .i64 0) = x := ⟨_, rfl⟩
    obtain ⟨ok, hok⟩ : ∃ ok, (LTake U S p).1.isSome = ok := ⟨_, rfl⟩
    rw [hx, hok] at HP ⊢
    clear hl hfr hs hp hx hok
    go_wp2_with fail
  all_goals
    go_loopw [3, 4, 5] (fun ov xv okv wr => ∃ (D R : List Value) (x : Value) (ok : Bool), xv = x ∧ okv = .bool ok ∧ Hid (L = D ++ R) ∧ Hid (lenOf ov = D.length) ∧ Hid (OwnV 3 wr w.heap.size ov D) ∧ Hid (Pending 54 (.int .i64 0) q u v room sh wr x ok R) ∧ Hid (Fr2 (fun k => k = q ∨ k = u ∨ k = v) w wr)) (fun ov _ _ _ => ll + 1 - lenOf ov)
    case atStart => exact ⟨[], L, x, ok, rfl, rfl, Lib.hid rfl, Lib.hid rfl, Lib.hid (HOW.out.keptS HFR.out (fun g hg _ => by have := HLM.out; omega)), HP, Lib.hid (Fr2.trans (Fr2.none (gb_drew HGA.out)) HFR.out)⟩
    case round =>
      clear HP HFR HOW HGA
      obtain ⟨D, R, x2, ok2, rfl, rfl, HDR, HLO, HO, HPE, HF⟩ := hrel
      cases R with
      | nil =>
        obtain ⟨rfl, hl⟩ := HPE.out
        have e1 : L = D := by have := HDR.out; simpa using this
        obtain ⟨p', c', rfl, h1, h2, h3⟩ := HO.out.is
        have HE := Lib.hid e1; have HL := Lib.hid hl
        clear hl h1 h2 h3 e1
        go_wp2_with fail
        go_ret
        have e1 := HE.out
        subst e1
        exact ⟨p', c', rfl, HO.out, HL.out, HF.out⟩
      | cons y R =>
        obtain ⟨rfl, rfl, U1, S1, p1, hl, hd⟩ := HPE.out
        obtain ⟨k, rfl⟩ := HK.out _ (by rw [HDR.out]; exact List.mem_append_right _ (List.mem_cons_self ..))
        have hDl : D.length < ll := by have h1 := HDR.out; have h2 := HLEN.out; rw [h1] at h2; simp at h2; omega
        have HDL := Lib.hid hDl
        have HD1 : Hid (D.length ≤ 1000000) := Lib.hid (by have h1 := HLL.out; have h2 := HLEN.out; omega)
        have HL := Lib.hid hl; have HDD := Lib.hid hd
        clear hl hd hDl
        go_wp2_with (at_builtin; go_loud (refine wpList_appV (t := 29) (T := 3) Try.underlying29 elemI rfl (by omega) rfl _ _ rfl w.heap.size D (.int .i64 k) rfl u3 rfl HO.out _ rfl rfl HD1.out HF.out.size ?_))
        intro g' cap' w3 hO3 hB3 _ _
        have hl3 := HL.out.keptS (Fr2.ofBelow hB3) (by have := HLM.out; omega) (by have := HLM.out; omega) (by have := HLM.out; omega)
        have HO3 := Lib.hid hO3; have HF3 := Lib.hid (HF.out.low hB3); have HT3 := Lib.hid (Take_c_int hl3); have HG3 := Lib.hid hl3.good
        clear hO3 hB3 hl3
        go_wp2_with fail
        refine HT3.out.mono ?_
        rintro e w4 ⟨rfl, hl4, hfr4, -⟩
        have HP4 := Lib.hid (pending_of (z := .int .i64 0) HG3.out HDD.out hl4); have HF4 := Lib.hid hfr4
        obtain ⟨x, hx⟩ : ∃ x, (LTake U1 S1 p1).1.getD (.int .i64 0) = x := ⟨_, rfl⟩
        obtain ⟨ok, hok⟩ : ∃ ok, (LTake U1 S1 p1).1.isSome = ok := ⟨_, rfl⟩
        rw [hx, hok] at HP4 ⊢
        clear hl4 hfr4 hx hok
        go_wp2_with fail
        go_roundw
        case rel => exact ⟨D ++ [.int .i64 k], R, x, ok, rfl, rfl, Lib.hid (by rw [HDR.out]; simp), Lib.hid (by simp [lenOf]), Lib.hid (by have := HO3.out.keptS HF4.out (fun g hg _ => by have := HLM.out; omega); simpa using this), HP4, Lib.hid (HF3.out.trans HF4.out)⟩
        case measure => have h1 := HLO.out; have h2 := HDL.out; simp only [lenOf] at h1 ⊢; omega
end Go.Proofs.Ytponbjocaackcaa
