/- Lemmas. -/
import Derived.Test.YtddccnpohpaofaaGreatDoorP4
import Derived.Test.YtddccnpohpaofaaGreatDoorP7
set_option linter.unusedVariables false
set_option linter.unusedSimpArgs false
namespace Go.Proofs.YtddccnpohpaofaaGreatDoor
open Go.RowKit

theorem cells10 {w : World} {r : Nat} {a b c d e f g h i j : Value} {T : TypeId} (hh : w.heap[r]? = some (.cells #[a, b, c, d, e, f, g, h, i, j] T (0, 0))) : w.cell? ⟨r, 0, none⟩ = some a ∧ w.cell? ⟨r, 1, none⟩ = some b ∧ w.cell? ⟨r, 2, none⟩ = some c ∧ w.cell? ⟨r, 3, none⟩ = some d ∧ w.cell? ⟨r, 4, none⟩ = some e ∧ w.cell? ⟨r, 5, none⟩ = some f ∧ w.cell? ⟨r, 6, none⟩ = some g ∧ w.cell? ⟨r, 7, none⟩ = some h ∧ w.cell? ⟨r, 8, none⟩ = some i ∧ w.cell? ⟨r, 9, none⟩ = some j ∧ ∀ o, w.frozen? ⟨r, o, none⟩ = false :=
  ⟨by rw [cell_of_row w r 0 _ T (0, 0) hh]; rfl, by rw [cell_of_row w r 1 _ T (0, 0) hh]; rfl, by rw [cell_of_row w r 2 _ T (0, 0) hh]; rfl, by rw [cell_of_row w r 3 _ T (0, 0) hh]; rfl, by rw [cell_of_row w r 4 _ T (0, 0) hh]; rfl, by rw [cell_of_row w r 5 _ T (0, 0) hh]; rfl, by rw [cell_of_row w r 6 _ T (0, 0) hh]; rfl, by rw [cell_of_row w r 7 _ T (0, 0) hh]; rfl, by rw [cell_of_row w r 8 _ T (0, 0) hh]; rfl, by rw [cell_of_row w r 9 _ T (0, 0) hh]; rfl, fun o => by simp [World.frozen?, hh]⟩

/-- The blocks that the parser turns. -/
def Tn (b bb : Nat) (vn : Value) : Nat → Prop := fun k => k = b ∨ k = bb ∨ vn.ownBlock = some k
/-- What calls of the parser do to the world. -/
structure Step (b bb : Nat) (vn : Value) (w : World) (vn' : Value) (w' : World) : Prop where
  fr : Fr2 (Tn b bb vn) w w'
  own : ∀ k, vn'.ownBlock = some k → vn.ownBlock = some k ∨ w.heap.size ≤ k
theorem Step.refl (b bb : Nat) (vn : Value) (w : World) : Step b bb vn w vn w := ⟨Fr2.refl _ _, fun _ h => .inl h⟩
theorem Step.of {b bb : Nat} {vn : Value} {w w' : World} (h : w.grownBy w' none) : Step b bb vn w vn w' := ⟨Fr2.none h, fun _ h => .inl h⟩
theorem Step.trans {b bb : Nat} {v0 v1 v2 : Value} {w0 w1 w2 : World} (h1 : Step b bb v0 w0 v1 w1) (h2 : Step b bb v1 w1 v2 w2) : Step b bb v0 w0 v2 w2 := by
  refine ⟨⟨h2.fr.os.trans h1.fr.os, h2.fr.tape.trans h1.fr.tape, h2.fr.output.trans h1.fr.output, Nat.le_trans h1.fr.size h2.fr.size, fun k hk hn => ?_⟩, fun k hk => ?_⟩
  · rw [h2.fr.block k (Nat.lt_of_lt_of_le hk h1.fr.size) ?_, h1.fr.block k hk hn]
    rintro (e | e | e)
    · exact hn (.inl e)
    · exact hn (.inr (.inl e))
    · rcases h1.own k e with h | h
      · exact hn (.inr (.inr h))
      · omega
  · rcases h2.own k hk with h | h
    · exact h1.own k h
    · exact .inr (Nat.le_trans h1.fr.size h)

/-- The parser at b, its builder at bb; the kids of its nodes lie in blocks of A. -/
structure XAt (w : World) (b bb : Nat) (T : List Tok) (D n : Nat) (s : St) (u : Nat) (N : List Nd) (vn : Value) (A : Nat → Prop) : Prop where
  box : w.heap[b]? = some (.cells #[.pointer (some ⟨bb, 0, none⟩), .int .i64 ((tokQ T s).kind : Int), strV (tokQ T s).lead, strV (tokQ T s).text, .int .i64 ((tokQ T s).pos : Int), .int .i64 (D : Int), .int .i64 (n : Int), .bool s.inn, .int .i64 (s.e : Int), .int .i64 (s.pos : Int)] 100 (0, 0))
  bld : FarV w bb T u N vn A
  far : ∀ k, A k → b < k
  new : ∀ k, w.heap.size ≤ k → A k
  lt : bb < b
  own : ∀ k, vn.ownBlock = some k → b < k ∧ k < w.heap.size
  ok : s.i < T.length
  few : N.length ≤ 2 * u

section
variable {w w' : World} {b bb : Nat} {T : List Tok} {D n : Nat} {s : St} {u : Nat} {N : List Nd} {vn : Value} {A : Nat → Prop}
theorem XAt.kept (h : XAt w b bb T D n s u N vn A) (hg : w.grownBy w' none) : XAt w' b bb T D n s u N vn A :=
  ⟨bx hg h.box, h.bld.kept hg, h.far, fun k hk => h.new k (Nat.le_trans hg.size hk), h.lt, fun k e => ⟨(h.own k e).1, Nat.lt_of_lt_of_le (h.own k e).2 hg.size⟩, h.ok, h.few⟩
theorem XAt.lt' (h : XAt w b bb T D n s u N vn A) : b < w.heap.size := hlt' h.box
/-- Cells of the parser's own are written. -/
theorem XAt.turn {n' : Nat} {s' : St} (h : XAt w b bb T D n s u N vn A) (hf : Fr2 (Self b) w w') (hb : w'.heap[b]? = some (.cells #[.pointer (some ⟨bb, 0, none⟩), .int .i64 ((tokQ T s').kind : Int), strV (tokQ T s').lead, strV (tokQ T s').text, .int .i64 ((tokQ T s').pos : Int), .int .i64 (D : Int), .int .i64 (n' : Int), .bool s'.inn, .int .i64 (s'.e : Int), .int .i64 (s'.pos : Int)] 100 (0, 0))) (ho : s'.i < T.length) : XAt w' b bb T D n' s' u N vn A :=
  ⟨hb, h.bld.keptF hf (fun k hk e => by have := h.lt; unfold Self at e; omega) (fun k e e2 => by have := (h.own k e).1; unfold Self at e2; omega) (fun k hk e => by have := h.far k hk; unfold Self at e; omega) (fun _ _ h => h), h.far, fun k hk => h.new k (Nat.le_trans hf.size hk), h.lt, fun k e => ⟨(h.own k e).1, Nat.lt_of_lt_of_le (h.own k e).2 hf.size⟩, ho, h.few⟩
theorem Step.self (h : Fr2 (Self b) w w') : Step b bb vn w vn w' := ⟨⟨h.os, h.tape, h.output, h.size, fun k hk hn => h.block k hk (fun e => hn (.inl e))⟩, fun _ h => .inl h⟩
end

/-! ### Slices of texts -/

def StrsAt (w : World) (v : Value) (ws : List (List UInt8)) : Prop := ∃ g, v = .slice (some ⟨g, 0, none⟩) ws.length ws.length ∧ ∀ (j : Nat) (x : List UInt8), ws[j]? = some x → w.cell? ⟨g, j, none⟩ = some (strV x)

def IdxPost (x : List UInt8) (ws : List (List UInt8)) (w : World) (e : Ending) (w' : World) : Prop := (∃ k : Int, e = .returned (.int .i64 k) ∧ decide (0 ≤ k) = decide (x ∈ ws)) ∧ w.grownBy w' none

set_option maxRecDepth 100000 in
set_option maxHeartbeats 4000000 in
theorem IndexS_c (g : Nat) (x : List UInt8) (ws : List (List UInt8)) (w : World) (hn : ws.length ≤ 100) (h : ∀ (j : Nat) (x : List UInt8), ws[j]? = some x → w.cell? ⟨g, j, none⟩ = some (strV x)) :
    Calls Tryz.prog 126 #[.slice (some ⟨g, 0, none⟩) ws.length ws.length, strV x] w (IdxPost x ws w) := by
  have HH := Lib.hid h
  clear h
  obtain ⟨m, hm⟩ : ∃ m, ws.length = m := ⟨_, rfl⟩
  have HM := Lib.hid hm
  unfold strV
  obtain ⟨xb, hxb⟩ : ∃ xb : ByteArray, (⟨x.toArray⟩ : ByteArray) = xb := ⟨_, rfl⟩
  have HX := Lib.hid hxb
  have HP : Hid (∀ (k : Int) (w' : World), decide (0 ≤ k) = decide (x ∈ ws) → w.grownBy w' none → IdxPost x ws w (.returned (.int .i64 k)) w') := Lib.hid (fun k w' h1 h2 => ⟨⟨k, rfl, h1⟩, h2⟩)
  rw [hm] at hn ⊢
  rw [hxb]
  clear hm hxb
  go_enter Tryz.func126, Tryz.ntmps126
  go_wp2_with fail
  go_loopw [8] (fun v wr => ∃ k : Nat, k ≤ m ∧ v = .int .i64 k ∧ wr = w ∧ Hid (∀ j, j < k → ws[j]? ≠ some x)) (fun v _ => m - (intOf v).toNat)
  case atStart => exact ⟨0, Nat.zero_le _, rfl, rfl, Lib.hid (fun j h => by omega)⟩
  case round =>
    obtain ⟨k, hk, rfl, rfl, HNO⟩ := hrel
    by_cases hlt : k < m
    · have d1 : decide ((k : Int) < (m : Int)) = true := decide_eq_true (by omega)
      have d1' : decide (k < m) = true := decide_eq_true hlt
      obtain ⟨y, hy⟩ : ∃ y, ws[k]? = some y := ⟨ws[k]'(by rw [HM.out]; exact hlt), List.getElem?_eq_getElem _⟩
      have c0 := HH.out k y hy
      unfold strV at c0
      obtain ⟨yb, hyb⟩ : ∃ yb : ByteArray, (⟨y.toArray⟩ : ByteArray) = yb := ⟨_, rfl⟩
      have e8 : (xb.toList == yb.toList) = decide (x = y) := by
        rw [← hyb, ← HX.out, toList_data, toList_data]
        by_cases e : x = y
        · rw [e]; simp
        · simp [e]
      rw [hyb] at c0
      have HY := Lib.hid hy
      clear hyb hy
      by_cases hxy : x = y
      · rw [decide_eq_true hxy] at e8
        have HIN : Hid (decide (0 ≤ (k : Int)) = decide (x ∈ ws)) := Lib.hid (by rw [decide_eq_true (show (0 : Int) ≤ (k : Int) by omega), decide_eq_true (by rw [hxy]; exact List.mem_of_getElem? HY.out)])
        clear hxy HNO
        go_wp2_with fail
        go_ret
        exact HP.out _ _ HIN.out (gb_refl _ _)
      · rw [decide_eq_false hxy] at e8
        have HN2 : Hid (∀ j, j < k + 1 → ws[j]? ≠ some x) := Lib.hid (fun j hj => by
          rcases Nat.lt_or_ge j k with h | h
          · exact HNO.out j h
          · obtain rfl : j = k := by omega
            rw [HY.out]; exact fun e => hxy (Option.some.inj e).symm)
        clear hxy HNO
        go_wp2_with fail
        go_roundw
        case rel => exact ⟨k + 1, by omega, by go_num, by first | rfl | trivial, HN2⟩
        case measure => (simp [intOf] <;> omega)
    · obtain rfl : k = m := by omega
      have HIN : Hid (decide (0 ≤ (-1 : Int)) = decide (x ∈ ws)) := Lib.hid (by
        rw [decide_eq_false (show ¬ (0 : Int) ≤ (-1 : Int) by omega), decide_eq_false]
        intro hx
        obtain ⟨j, hj⟩ := List.getElem?_of_mem hx
        exact HNO.out j (by rw [← HM.out]; exact (List.getElem?_eq_some_iff.1 hj).1) hj)
      clear HNO
      go_wp2_with fail
      go_ret
      exact HP.out _ _ HIN.out (gb_refl _ _)

set_option maxRecDepth 100000 in
set_option maxHeartbeats 4000000 in
theorem ContainsS_c (g : Nat) (x : List UInt8) (ws : List (List UInt8)) (w : World) (hn : ws.length ≤ 100) (h : ∀ (j : Nat) (x : List UInt8), ws[j]? = some x → w.cell? ⟨g, j, none⟩ = some (strV x)) :
    Calls Tryz.prog 109 #[.slice (some ⟨g, 0, none⟩) ws.length ws.length, strV x] w (ValPost (.bool (decide (x ∈ ws))) w) := by
  have HI := Lib.hid (IndexS_c g x ws w hn h)
  obtain ⟨m, hm⟩ : ∃ m, ws.length = m := ⟨_, rfl⟩
  obtain ⟨v, hv⟩ : ∃ v, strV x = v := ⟨_, rfl⟩
  rw [hm, hv] at HI ⊢
  clear hm hv h hn
  go_enter Tryz.func109, Tryz.ntmps109
  go_wp2_with fail
  refine HI.out.mono ?_
  rintro e w1 ⟨⟨k, rfl, hk⟩, hg⟩
  have HG := Lib.hid hg; have HK := Lib.hid hk
  clear hg HI hk
  go_wp2_with fail
  go_ret
  exact ⟨by rw [← HK.out]; rfl, HG.out⟩

/-- Is the next token one of these texts? -/
def atQ (T : List Tok) (ws : List (List UInt8)) (s : St) : Bool := decide (s.e = 0) && decide ((tokQ T s).text ∈ ws)

section
variable (b bb : Nat) (T : List Tok) (D n : Nat)

set_option maxRecDepth 100000 in
set_option maxHeartbeats 4000000 in
theorem at_c (s : St) (u : Nat) (N : List Nd) (vn v : Value) (A : Nat → Prop) (ws : List (List UInt8)) (w : World) (hn : ws.length ≤ 100) (h : XAt w b bb T D n s u N vn A) (hv : StrsAt w v ws) :
    Calls Tryz.prog 75 #[.pointer (some ⟨b, 0, none⟩), v] w (ValPost (.bool (atQ T ws s)) w) := by
  obtain ⟨d0, d1, d2, d3, d4, d5, d6, d7, d8, d9, d10⟩ := cells10 h.box
  obtain ⟨g, rfl, hc⟩ := hv
  have HC := Lib.hid (ContainsS_c g (tokQ T s).text ws w hn hc)
  have HA : Hid (atQ T ws s = (decide (s.e = 0) && decide ((tokQ T s).text ∈ ws))) := Lib.hid rfl
  obtain ⟨m, hm⟩ : ∃ m, ws.length = m := ⟨_, rfl⟩
  obtain ⟨t, ht⟩ : ∃ t, strV (tokQ T s).text = t := ⟨_, rfl⟩
  rw [ht] at d3
  rw [hm, ht] at HC
  rw [hm]
  obtain ⟨E, hE⟩ : ∃ E, s.e = E := ⟨_, rfl⟩
  rw [hE] at d8 HA
  clear hc h hn hm ht hE
  by_cases he : E = 0
  · subst he
    go_enter Tryz.func75, Tryz.ntmps75
    go_wp2_with fail
    refine HC.out.mono ?_
    rintro e w1 ⟨rfl, hg⟩
    have HG := Lib.hid hg
    clear hg HC
    go_wp2_with fail
    go_ret
    exact ⟨by rw [HA.out]; simp, HG.out⟩
  · have e2 : (E == 0) = false := beq_eq_false_iff_ne.2 he
    have e2' : ((E : Int) == 0) = false := beq_eq_false_iff_ne.2 (by omega)
    have HE := Lib.hid he
    clear he HC
    go_enter Tryz.func75, Tryz.ntmps75
    go_wp2_with fail
    go_ret
    exact ⟨by rw [HA.out, decide_eq_false HE.out]; rfl, gb_refl _ _⟩

set_option maxRecDepth 100000 in
set_option maxHeartbeats 4000000 in
theorem atKind_c (s : St) (u : Nat) (N : List Nd) (vn : Value) (A : Nat → Prop) (k : Nat) (w : World) (h : XAt w b bb T D n s u N vn A) :
    Calls Tryz.prog 77 #[.pointer (some ⟨b, 0, none⟩), .int .i64 (k : Int)] w (ValPost (.bool (decide (s.e = 0 ∧ (tokQ T s).kind = k))) w) := by
  obtain ⟨d0, d1, d2, d3, d4, d5, d6, d7, d8, d9, d10⟩ := cells10 h.box
  obtain ⟨t, ht⟩ : ∃ t, (tokQ T s).kind = t := ⟨_, rfl⟩
  rw [ht] at d1 ⊢
  obtain ⟨E, hE⟩ : ∃ E, s.e = E := ⟨_, rfl⟩
  rw [hE] at d8 ⊢
  clear h ht hE
  by_cases he : E = 0
  · subst he
    have e1 : ((t : Int) == (k : Int)) = decide (t = k) := by
      by_cases e : t = k
      · subst e; simp
      · rw [decide_eq_false e]; exact beq_eq_false_iff_ne.2 (by omega)
    have e1' : (t == k) = decide (t = k) := by by_cases e : t = k <;> simp [e]
    have HV : Hid (decide ((0 : Nat) = 0 ∧ t = k) = decide (t = k)) := Lib.hid (by simp)
    rw [HV.out]
    go_enter Tryz.func77, Tryz.ntmps77
    go_wp2_with fail
    go_ret
    exact ⟨by first | rfl | simp, gb_refl _ _⟩
  · have e2 : (E == 0) = false := beq_eq_false_iff_ne.2 he
    have e2' : ((E : Int) == 0) = false := beq_eq_false_iff_ne.2 (by omega)
    have HV : Hid (decide (E = 0 ∧ t = k) = false) := Lib.hid (decide_eq_false (fun e => he e.1))
    rw [HV.out]
    clear he
    go_enter Tryz.func77, Tryz.ntmps77
    go_wp2_with fail
    go_ret
    exact ⟨rfl, gb_refl _ _⟩

def FPost (b bb : Nat) (T : List Tok) (D n : Nat) (s : St) (u : Nat) (N : List Nd) (vn : Value) (A : Nat → Prop) (w : World) (e : Ending) (w' : World) : Prop := e = .returned (.int .i64 (-1)) ∧ XAt w' b bb T D n s u N vn A ∧ Step b bb vn w vn w'

set_option maxRecDepth 100000 in
set_option maxHeartbeats 4000000 in
theorem pfail_c (m : Nat) (s : St) (u : Nat) (N : List Nd) (vn : Value) (A : Nat → Prop) (w : World) (h : XAt w b bb T D n s u N vn A) :
    Calls Tryz.prog 73 #[.pointer (some ⟨b, 0, none⟩), .int .i64 (m : Int)] w (FPost b bb T D n (failQ T m s) u N vn A w) := by
  obtain ⟨d0, d1, d2, d3, d4, d5, d6, d7, d8, d9, d10⟩ := cells10 h.box
  have HB := Lib.hid h
  by_cases he : s.e = 0
  · have HF : Hid (failQ T m s = { s with e := m, pos := (tokQ T s).pos }) := Lib.hid (by unfold failQ; rw [if_pos he])
    have HB2 := Lib.hid (fun (v1 v2 : Value) => set_cells (i := 9) (u := v2) (set_cells (i := 8) (u := v1) h.box))
    obtain ⟨p, hp⟩ : ∃ p, (tokQ T s).pos = p := ⟨_, rfl⟩
    have HPP := Lib.hid hp
    rw [hp] at d4
    rw [he] at d8
    clear h he hp
    go_enter Tryz.func73, Tryz.ntmps73
    go_wp2_with fail
    go_ret
    have hf : Fr2 (Self b) w ((w.setCell ⟨b, 8, none⟩ (.int .i64 (m : Int))).setCell ⟨b, 9, none⟩ (.int .i64 (p : Int))) := ((Fr2.refl _ _).setCell (mine b) _).setCell (mine b) _
    refine ⟨rfl, ?_, Step.self hf⟩
    rw [HF.out]
    have hpp := HPP.out
    subst hpp
    exact HB.out.turn hf ((HB2.out _ _).trans rfl) HB.out.ok
  · have d11 : ((s.e : Int) == 0) = false := beq_eq_false_iff_ne.2 (by omega)
    have d11' : (s.e == 0) = false := beq_eq_false_iff_ne.2 he
    have HF : Hid (failQ T m s = s) := Lib.hid (fail_same T he)
    clear h he
    go_enter Tryz.func73, Tryz.ntmps73
    go_wp2_with fail
    go_ret
    exact ⟨rfl, by rw [HF.out]; exact HB.out, Step.refl _ _ _ _⟩
end
end Go.Proofs.YtddccnpohpaofaaGreatDoor
namespace Go.Proofs.YtddccnpohpaofaaGreatDoor
open Go.RowKit

/-- What a call that answers a place does. -/
def IPost (b bb : Nat) (T : List Tok) (D n k : Nat) (s : St) (r : RT) (N : List Nd) (vn : Value) (A : Nat → Prop) (w : World) (e : Ending) (w' : World) : Prop :=
  ∃ (v : Int) (N' : List Nd) (vn' : Value), e = .returned (.int .i64 v) ∧ XAt w' b bb T D n r.2 r.2.i N' vn' A ∧ Step b bb vn w vn' w' ∧ OutD k N s r N' [v] ∧ (s.e ≠ 0 → r.2.e ≠ 0)
theorem IPost.eqv {b bb : Nat} {T : List Tok} {D n k : Nat} {s : St} {r r' : RT} {N : List Nd} {vn : Value} {A : Nat → Prop} {w : World} {e : Ending} {w' : World} (h : IPost b bb T D n k s r N vn A w e w') (he : Eqv r r') : IPost b bb T D n k s r' N vn A w e w' := by
  obtain ⟨v, N', vn', h1, h2, h3, h4, h5⟩ := h
  exact ⟨v, N', vn', h1, he.1 ▸ h2, h3, h4.eqv he, fun h => by rw [← he.1]; exact h5 h⟩
/-- Ahead of it the world went from w0 to w. -/
theorem IPost.after {b bb : Nat} {T : List Tok} {D n k : Nat} {s : St} {r : RT} {N : List Nd} {vn : Value} {A : Nat → Prop} {w0 w : World} {e : Ending} {w' : World} (h : IPost b bb T D n k s r N vn A w e w') (hs : Step b bb vn w0 vn w) : IPost b bb T D n k s r N vn A w0 e w' := by
  obtain ⟨v, N', vn', h1, h2, h3, h4, h5⟩ := h
  exact ⟨v, N', vn', h1, h2, hs.trans h3, h4, h5⟩

/-- The builder has a node more. -/
theorem XAt.bump {w w' : World} {b bb : Nat} {T : List Tok} {D n : Nat} {s : St} {u u' : Nat} {N N' : List Nd} {vn vn' : Value} {A : Nat → Prop} (h : XAt w b bb T D n s u N vn A) (hb : FarV w' bb T u' N' vn' A) (hf : Fr2 (Turn bb vn) w w') (ho : ∀ k, vn'.ownBlock = some k → vn.ownBlock = some k ∨ w.heap.size ≤ k) (hN : N'.length ≤ 2 * u') : XAt w' b bb T D n s u' N' vn' A ∧ Step b bb vn w vn' w' := by
  have hw := h.lt'
  refine ⟨⟨hf.keep h.box (fun e => ?_), hb, h.far, fun k hk => h.new k (Nat.le_trans hf.size hk), h.lt, fun k e => ⟨?_, ?_⟩, h.ok, hN⟩, ⟨⟨hf.os, hf.tape, hf.output, hf.size, fun k hk hn => hf.block k hk (fun e => hn (e.elim (fun h => .inr (.inl h)) (fun h => .inr (.inr h))))⟩, ho⟩⟩
  · have h1 := h.lt
    rcases e with e | e
    · omega
    · have := (h.own _ e).1; omega
  · rcases ho k e with h1 | h1
    · exact (h.own k h1).1
    · omega
  · obtain ⟨pt, ct, K, hB, -⟩ := hb
    exact (hB.turn k e).2

section
variable (b bb : Nat) (T : List Tok) (D n : Nat)
variable (hT : T.length ≤ 40000) (hS : Short T) (hE : EndT T)
include hT hS hE

/-- What take does: at the end too. -/
def TPost (b bb : Nat) (T : List Tok) (D n : Nat) (s : St) (N : List Nd) (vn : Value) (A : Nat → Prop) (w : World) (e : Ending) (w' : World) : Prop :=
  ∃ vn' : Value, e = .returned (.int .i64 (N.length : Int)) ∧ XAt w' b bb T D n (leafT T s).2 (s.i + 1) (N ++ [⟨19, (s.i : Int), []⟩]) vn' A ∧ Step b bb vn w vn' w'

set_option maxRecDepth 100000 in
set_option maxHeartbeats 4000000 in
theorem take_c (s : St) (N : List Nd) (vn : Value) (A : Nat → Prop) (w : World) (h : XAt w b bb T D n s s.i N vn A) :
    Calls Tryz.prog 76 #[.pointer (some ⟨b, 0, none⟩)] w (TPost b bb T D n s N vn A w) := by
  obtain ⟨d0, d1, d2, d3, d4, d5, d6, d7, d8, d9, d10⟩ := cells10 h.box
  have hfew := h.few
  have hok := h.ok
  have HL := Lib.hid (Leaf_far A bb T s.i N vn w (by omega) hok (by omega) h.bld)
  have htok : T[s.i]? = some (tokQ T s) := by unfold tokQ; rw [List.getElem?_eq_getElem hok]; rfl
  have hend := hE _ _ htok
  have hi : (leafT T s).2.i = min (s.i + 1) (T.length - 1) ∧ (leafT T s).2.inn = s.inn ∧ (leafT T s).2.e = s.e ∧ (leafT T s).2.pos = s.pos := by
    show (leafQ T s).2.i = _ ∧ (leafQ T s).2.inn = _ ∧ (leafQ T s).2.e = _ ∧ (leafQ T s).2.pos = _
    unfold leafQ
    by_cases h5 : (tokQ T s).kind = 5
    · rw [if_pos h5]
      have := hend.1 h5
      exact ⟨by show s.i = _; omega, rfl, rfl, rfl⟩
    · rw [if_neg h5]
      have : s.i + 1 ≠ T.length := fun e => h5 (hend.2 e)
      exact ⟨by show s.i + 1 = _; omega, rfl, rfl, rfl⟩
  obtain ⟨s', hs'⟩ : ∃ s', (leafT T s).2 = s' := ⟨_, rfl⟩
  rw [hs'] at hi
  have ht' : T[min (s.i + 1) (T.length - 1)]? = some (tokQ T s') := by
    rw [← hi.1]; unfold tokQ; rw [List.getElem?_eq_getElem (by rw [hi.1]; omega)]; rfl
  have HPK := Lib.hid (fun (N' : List Nd) (vn' : Value) (w1 : World) (hb : BldV w1 bb T (s.i + 1) N' vn') => Peek_c bb T (s.i + 1) N' vn' (tokQ T s') w1 (by omega) (by omega) hS ht' hb)
  have HX := Lib.hid h
  have hle : N.length + 1 ≤ 2 * (s.i + 1) := by omega
  have HLE := Lib.hid hle
  have HI := Lib.hid hi
  have HSI : Hid (s'.i < T.length) := Lib.hid (by rw [hi.1]; omega)
  have HTP : Hid (TPost b bb T D n s N vn A w = fun e w' => ∃ vn' : Value, e = .returned (.int .i64 (N.length : Int)) ∧ XAt w' b bb T D n s' (s.i + 1) (N ++ [⟨19, (s.i : Int), []⟩]) vn' A ∧ Step b bb vn w vn' w') := Lib.hid (by unfold TPost; rw [hs'])
  rw [HTP.out]
  clear h hfew hok htok hend hs' hi ht' hle hT hS hE HTP
  go_enter Tryz.func76, Tryz.ntmps76
  go_wp2_with fail
  refine HL.out.mono ?_
  rintro e w1 ⟨rfl, vn1, hb1, hf1, ho1⟩
  obtain ⟨hx1, hst1⟩ := HX.out.bump hb1 hf1 ho1 (by rw [List.length_append]; exact HLE.out)
  have HX1 := Lib.hid hx1; have HST1 := Lib.hid hst1
  obtain ⟨d0, d1, d2, d3, d4, d5, d6, d7, d8, d9, d10⟩ := cells10 hx1.box
  clear hb1 hf1 ho1 hx1 hst1 HL
  go_wp2_with fail
  refine (HPK.out _ _ _ HX1.out.bld.bld).mono ?_
  rintro e w2 ⟨rfl, hg2⟩
  have HX2 := Lib.hid (HX1.out.kept hg2); have HST2 := Lib.hid (HST1.out.trans (Step.of (b := b) (bb := bb) (vn := vn1) hg2))
  obtain ⟨d0, d1, d2, d3, d4, d5, d6, d7, d8, d9, d10⟩ := cells10 HX2.out.box
  clear hg2 HPK
  have HB2 := Lib.hid (fun (v1 v2 v3 v4 : Value) => set_cells (i := 4) (u := v4) (set_cells (i := 3) (u := v3) (set_cells (i := 2) (u := v2) (set_cells (i := 1) (u := v1) HX2.out.box))))
  obtain ⟨t, ht⟩ : ∃ t, tokQ T s' = t := ⟨_, rfl⟩
  have HTK := Lib.hid ht
  rw [ht]
  unfold tokA strV
  obtain ⟨xl, hxl⟩ : ∃ xl : ByteArray, (⟨t.lead.toArray⟩ : ByteArray) = xl := ⟨_, rfl⟩
  obtain ⟨xt, hxt⟩ : ∃ xt : ByteArray, (⟨t.text.toArray⟩ : ByteArray) = xt := ⟨_, rfl⟩
  have HXL := Lib.hid hxl; have HXT := Lib.hid hxt
  rw [hxl, hxt]
  obtain ⟨tk, htk⟩ : ∃ tk, t.kind = tk := ⟨_, rfl⟩
  obtain ⟨tp, htp⟩ : ∃ tp, t.pos = tp := ⟨_, rfl⟩
  have HKI := Lib.hid htk; have HPO := Lib.hid htp
  rw [htk, htp]
  clear ht hxl hxt htk htp
  go_wp2_with fail
  go_ret
  have hf : Fr2 (Self b) w2 ((((w2.setCell ⟨b, 1, none⟩ (.int .i64 (tk : Int))).setCell ⟨b, 2, none⟩ (.string xl)).setCell ⟨b, 3, none⟩ (.string xt)).setCell ⟨b, 4, none⟩ (.int .i64 (tp : Int))) := ((((Fr2.refl _ _).setCell (mine b) _).setCell (mine b) _).setCell (mine b) _).setCell (mine b) _
  refine ⟨vn1, rfl, HX2.out.turn hf ((HB2.out _ _ _ _).trans ?_) HSI.out, HST2.out.trans (Step.self hf)⟩
  rw [HTK.out, HI.out.2.1, HI.out.2.2.1, HI.out.2.2.2]
  unfold strV
  rw [HXL.out, HXT.out, HKI.out, HPO.out]
  rfl

/-- What take does ahead of the end. -/
theorem take_i (s : St) (N : List Nd) (vn : Value) (A : Nat → Prop) (w : World) (hk : (tokQ T s).kind ≠ 5) (he : s.e = 0) (h : XAt w b bb T D n s s.i N vn A) :
    Calls Tryz.prog 76 #[.pointer (some ⟨b, 0, none⟩)] w (IPost b bb T D n 1 s (leafT T s) N vn A w) := by
  refine (take_c b bb T D n hT hS hE s N vn A w h).mono ?_
  rintro e w' ⟨vn', rfl, h1, h2⟩
  exact ⟨_, _, vn', rfl, by rw [leaf_i hk]; exact h1, h2, OutD.leaf hk he, fun h => absurd he h⟩

/-- One of some texts must come. -/
def musT (T : List Tok) (ws : List (List UInt8)) (s : St) : RT := if atQ T ws s = true then leafT T s else ([], failQ T 22 s)
/-- No token that reads as a key or sign stands at the end. -/
def KeysT (T : List Tok) (ws : List (List UInt8)) : Prop := ∀ s, atQ T ws s = true → (tokQ T s).kind ≠ 5 ∧ s.e = 0

set_option maxRecDepth 100000 in
set_option maxHeartbeats 4000000 in
theorem one_c (ws : List (List UInt8)) (hn : ws.length ≤ 100) (hk : KeysT T ws) (s : St) (N : List Nd) (vn v : Value) (A : Nat → Prop) (w : World) (h : XAt w b bb T D n s s.i N vn A) (hv : StrsAt w v ws) :
    Calls Tryz.prog 165 #[.pointer (some ⟨b, 0, none⟩), v] w (IPost b bb T D n 1 s (musT T ws s) N vn A w) := by
  have HA := Lib.hid (at_c b bb T D n s s.i N vn v A ws w hn h hv)
  have HF := Lib.hid (fun w h => pfail_c b bb T D n 22 s s.i N vn A w h)
  have HX := Lib.hid h
  obtain ⟨a, ha⟩ : ∃ a, atQ T ws s = a := ⟨_, rfl⟩
  have HV := Lib.hid ha
  have HTK := Lib.hid (fun w (hh : atQ T ws s = true) h => take_i b bb T D n hT hS hE s N vn A w (hk s hh).1 (hk s hh).2 h)
  rw [ha] at HA
  clear h hv hn hk ha hT hS hE
  go_enter Tryz.func165, Tryz.ntmps165
  go_wp2_with fail
  refine HA.out.mono ?_
  rintro e w1 ⟨rfl, hg⟩
  have HX1 := Lib.hid (HX.out.kept hg); have HG := Lib.hid hg
  clear hg HA
  cases a
  · go_wp2_with fail
    refine (HF.out _ HX1.out).mono ?_
    rintro e w2 ⟨rfl, h2, st2⟩
    have HZ : Hid (IPost b bb T D n 1 s (musT T ws s) N vn A w (.returned (.int .i64 (-1))) w2) := Lib.hid (by
      have e : musT T ws s = ([], failQ T 22 s) := by unfold musT; rw [if_neg (by rw [HV.out]; decide)]
      rw [e]
      refine ⟨-1, N, vn, rfl, ?_, (Step.of HG.out).trans st2, OutD.fail (by decide) [], fun h => by show (failQ T 22 s).e ≠ 0; rw [fail_same T h]; exact h⟩
      show XAt w2 b bb T D n (failQ T 22 s) (failQ T 22 s).i N vn A
      rw [fail_i]; exact h2)
    clear h2 st2
    go_wp2_with fail
    go_ret
    exact HZ.out
  · go_wp2_with fail
    refine (HTK.out _ HV.out HX1.out).mono ?_
    rintro e w2 hp
    have HZ : Hid (IPost b bb T D n 1 s (musT T ws s) N vn A w e w2) := Lib.hid (by
      have e : musT T ws s = leafT T s := by unfold musT; rw [if_pos HV.out]
      rw [e]
      exact hp.after (Step.of HG.out))
    obtain ⟨v, N', vn', rfl, -⟩ := hp
    go_wp2_with fail
    go_ret
    exact HZ.out

set_option maxRecDepth 100000 in
set_option maxHeartbeats 4000000 in
theorem oneOf_c (k : Nat) (hk : k ≠ 5) (s : St) (N : List Nd) (vn : Value) (A : Nat → Prop) (w : World) (h : XAt w b bb T D n s s.i N vn A) :
    Calls Tryz.prog 45 #[.pointer (some ⟨b, 0, none⟩), .int .i64 (k : Int)] w (IPost b bb T D n 1 s (kindT T k s) N vn A w) := by
  have HA := Lib.hid (atKind_c b bb T D n s s.i N vn A k w h)
  have HF := Lib.hid (fun w h => pfail_c b bb T D n 22 s s.i N vn A w h)
  have HX := Lib.hid h
  have HKT : Hid (kindT T k s = if s.e = 0 ∧ (tokQ T s).kind = k then leafT T s else ([], failQ T 22 s)) := Lib.hid rfl
  have HTK := Lib.hid (fun w (hh : s.e = 0 ∧ (tokQ T s).kind = k) h => take_i b bb T D n hT hS hE s N vn A w (by rw [hh.2]; exact hk) hh.1 h)
  clear h hk hT hS hE
  by_cases hc : s.e = 0 ∧ (tokQ T s).kind = k
  · rw [decide_eq_true hc] at HA
    rw [if_pos hc] at HKT
    have HC := Lib.hid hc
    rw [HKT.out]
    clear hc
    go_enter Tryz.func45, Tryz.ntmps45
    go_wp2_with fail
    refine HA.out.mono ?_
    rintro e w1 ⟨rfl, hg⟩
    have HX1 := Lib.hid (HX.out.kept hg); have HG := Lib.hid hg
    clear hg HA
    go_wp2_with fail
    refine (HTK.out _ HC.out HX1.out).mono ?_
    rintro e w2 hp
    have HZ := Lib.hid (hp.after (Step.of HG.out))
    obtain ⟨v, N', vn', rfl, -⟩ := hp
    go_wp2_with fail
    go_ret
    exact HZ.out
  · rw [decide_eq_false hc] at HA
    rw [if_neg hc] at HKT
    rw [HKT.out]
    clear hc
    go_enter Tryz.func45, Tryz.ntmps45
    go_wp2_with fail
    refine HA.out.mono ?_
    rintro e w1 ⟨rfl, hg⟩
    have HX1 := Lib.hid (HX.out.kept hg); have HG := Lib.hid hg
    clear hg HA
    go_wp2_with fail
    refine (HF.out _ HX1.out).mono ?_
    rintro e w2 ⟨rfl, h2, st2⟩
    have HZ : Hid (IPost b bb T D n 1 s ([], failQ T 22 s) N vn A w (.returned (.int .i64 (-1))) w2) := Lib.hid (by
      refine ⟨-1, N, vn, rfl, ?_, (Step.of HG.out).trans st2, OutD.fail (by decide) [], fun h => by show (failQ T 22 s).e ≠ 0; rw [fail_same T h]; exact h⟩
      show XAt w2 b bb T D n (failQ T 22 s) (failQ T 22 s).i N vn A
      rw [fail_i]; exact h2)
    clear h2 st2
    go_wp2_with fail
    go_ret
    exact HZ.out
end
end Go.Proofs.YtddccnpohpaofaaGreatDoor
