/- The reference's parser in memory; its small functions. -/
import Derived.Test.YthclkbaankjbiaaGreatDoorM5
import Derived.Test.YthclkbaankjbiaaGreatDoorM15
namespace Go.Proofs.YthclkbaankjbiaaGreatDoor
open Go.RowKit

def Self (b : Nat) : Nat → Prop := fun k => k = b
def EndT (T : List Tok) : Prop := ∀ (i : Nat) (t : Tok), T[i]? = some t → (t.kind = 5 ↔ i + 1 = T.length)

theorem fr2_drewN {X : Nat → Prop} {a b : World} (h : Fr2 X a b) (n : Nat) : Fr2 X a (b.drewN n) := ⟨h.os, h.tape, h.output, h.size, h.block⟩
theorem mine (b : Nat) : Self b b := rfl
theorem fr2_drew {X : Nat → Prop} {a b : World} (h : Fr2 X a b) : Fr2 X a b.drew := ⟨h.os, h.tape, h.output, h.size, h.block⟩

structure PAt (w : World) (b : Nat) (q : Option Addr) (c : Nat) (T : List Tok) (D : Nat) (s : St) : Prop where
  box : w.heap[b]? = some (.cells #[.slice q T.length c, .int .i64 (s.i : Int), .int .i64 (D : Int), .bool s.inn, .int .i64 (s.e : Int), .int .i64 (s.pos : Int)] 54 (0, 0))
  toks : TAt w q T
  far : ∀ a, q = some a → a.block ≠ b
  ok : s.i < T.length

theorem cells6 {w : World} {r : Nat} {a b c d e f : Value} {T : TypeId} (h : w.heap[r]? = some (.cells #[a, b, c, d, e, f] T (0, 0))) : w.cell? ⟨r, 0, none⟩ = some a ∧ w.cell? ⟨r, 1, none⟩ = some b ∧ w.cell? ⟨r, 2, none⟩ = some c ∧ w.cell? ⟨r, 3, none⟩ = some d ∧ w.cell? ⟨r, 4, none⟩ = some e ∧ w.cell? ⟨r, 5, none⟩ = some f ∧ ∀ o, w.frozen? ⟨r, o, none⟩ = false :=
  ⟨by rw [cell_of_row w r 0 _ T (0, 0) h]; rfl, by rw [cell_of_row w r 1 _ T (0, 0) h]; rfl, by rw [cell_of_row w r 2 _ T (0, 0) h]; rfl, by rw [cell_of_row w r 3 _ T (0, 0) h]; rfl, by rw [cell_of_row w r 4 _ T (0, 0) h]; rfl, by rw [cell_of_row w r 5 _ T (0, 0) h]; rfl, fun o => by simp [World.frozen?, h]⟩

section
variable {w w' : World} {b : Nat} {q : Option Addr} {c : Nat} {T : List Tok} {D : Nat} {s s' : St}
theorem PAt.turn (h : PAt w b q c T D s) (hf : Fr2 (Self b) w w') (hb : w'.heap[b]? = some (.cells #[.slice q T.length c, .int .i64 (s'.i : Int), .int .i64 (D : Int), .bool s'.inn, .int .i64 (s'.e : Int), .int .i64 (s'.pos : Int)] 54 (0, 0))) (ho : s'.i < T.length) : PAt w' b q c T D s' := by
  refine ⟨hb, ?_, h.far, ho⟩
  rcases h.toks with h0 | ⟨g, off, e, hl, hc⟩
  · exact .inl h0
  · have hb := hf.block g hl (fun e2 => h.far _ e e2)
    refine .inr ⟨g, off, e, Nat.lt_of_lt_of_le hl hf.size, fun j t hj => ?_⟩
    obtain ⟨c0, c1, c2, c3⟩ := hc j t hj
    exact ⟨(World.cell?_of_block (a := ⟨g, _, none⟩) hb).trans c0, (World.cell?_of_block (a := ⟨g, _, none⟩) hb).trans c1, (World.cell?_of_block (a := ⟨g, _, none⟩) hb).trans c2, (World.cell?_of_block (a := ⟨g, _, none⟩) hb).trans c3⟩
theorem PAt.kept (h : PAt w b q c T D s) (hg : w.grownBy w' none) : PAt w' b q c T D s := ⟨bx hg h.box, h.toks.kept hg, h.far, h.ok⟩
theorem PAt.tok (h : PAt w b q c T D s) : ∃ g off, q = some ⟨g, off, none⟩ ∧ T[s.i]? = some (tokQ T s) ∧ w.cell? ⟨g, off + s.i * 4, none⟩ = some (.int .i64 ((tokQ T s).kind : Int)) ∧ w.cell? ⟨g, off + s.i * 4 + 2, none⟩ = some (strV (tokQ T s).text) ∧ w.cell? ⟨g, off + s.i * 4 + 3, none⟩ = some (.int .i64 ((tokQ T s).pos : Int)) ∧ g ≠ b := by
  have ht : T[s.i]? = some (tokQ T s) := by unfold tokQ; rw [List.getElem?_eq_getElem h.ok]; rfl
  obtain ⟨g, off, e, hl, hc⟩ := h.toks.resolve_left (fun h0 => by rw [h0] at ht; simp at ht)
  obtain ⟨c0, c1, c2, c3⟩ := hc _ _ ht
  exact ⟨g, off, e, ht, c0, c2, c3, h.far _ e⟩
end

theorem room_mono (T : List Tok) {i j : Nat} (h : i ≤ j) : roomQ T i ≤ roomQ T j := by
  unfold roomQ
  obtain ⟨d, rfl⟩ := Nat.exists_eq_add_of_le h
  rw [List.take_add, List.map_append, List.sum_append]; omega
theorem room_end (T : List Tok) (i : Nat) : roomQ T i ≤ roomQ T T.length := by
  by_cases h : i ≤ T.length
  · exact room_mono T h
  · unfold roomQ; rw [List.take_of_length_le (by omega), List.take_of_length_le (Nat.le_refl _)]; exact Nat.le_refl _
theorem text_room {T : List Tok} {s : St} (h : s.i < T.length) : (tokQ T s).text.length + 8 ≤ roomQ T T.length := by
  have ht : T[s.i]? = some (tokQ T s) := by unfold tokQ; rw [List.getElem?_eq_getElem h]; rfl
  have h1 := room_next T ht
  have h2 := room_end T (s.i + 1)
  omega
theorem len_room (T : List Tok) : T.length ≤ roomQ T T.length := by
  unfold roomQ
  rw [List.take_of_length_le (Nat.le_refl _)]
  induction T with
  | nil => exact Nat.le_refl _
  | cons a T ih => simp only [List.map_cons, List.sum_cons, List.length_cons]; omega
theorem qapp (a b : ByteArray) : (a ++ b).data.toList = a.data.toList ++ b.data.toList := by rw [ByteArray.data_append, Array.toList_append]
theorem qsize {a : ByteArray} {l : List UInt8} (h : a.data.toList = l) : a.size = l.length := by rw [← list_len, h]

def SPost (b : Nat) (q : Option Addr) (c : Nat) (T : List Tok) (D : Nat) (s : St) (w : World) (e : Ending) (w' : World) : Prop := e = .returned (.tuple #[]) ∧ PAt w' b q c T D s ∧ Fr2 (Self b) w w'
def BPost (b : Nat) (q : Option Addr) (c : Nat) (T : List Tok) (D : Nat) (s : St) (v : Bool) (w : World) (e : Ending) (w' : World) : Prop := e = .returned (.bool v) ∧ PAt w' b q c T D s ∧ Fr2 (Self b) w w'
def RPost (b : Nat) (q : Option Addr) (c : Nat) (T : List Tok) (D : Nat) (r : RQ) (w : World) (e : Ending) (w' : World) : Prop := (∃ x : ByteArray, e = .returned (.string x) ∧ x.data.toList = r.1) ∧ PAt w' b q c T D r.2 ∧ Fr2 (Self b) w w'

section
variable (b : Nat) (q : Option Addr) (c : Nat) (T : List Tok) (D : Nat)

set_option maxRecDepth 100000 in
set_option maxHeartbeats 4000000 in
theorem fail_c (n : Nat) (s : St) (w : World) (h : PAt w b q c T D s) : Calls Tryz.prog 47 #[.pointer (some ⟨b, 0, none⟩), .int .i64 (n : Int)] w (SPost b q c T D (failQ T n s) w) := by
  obtain ⟨d0, d1, d2, d3, d4, d5, d6⟩ := cells6 h.box
  obtain ⟨g, off, rfl, ht, t0, t2, t3, hgb⟩ := h.tok
  have HB := Lib.hid h
  have hok := h.ok
  by_cases he : s.e = 0
  · have HF : Hid (failQ T n s = { s with e := n, pos := (tokQ T s).pos }) := Lib.hid (by unfold failQ; rw [if_pos he])
    have HB2 := Lib.hid (fun (v : Value) => set_cells (i := 5) (u := v) (set_cells (i := 4) (u := .int .i64 (n : Int)) h.box))
    obtain ⟨m, hm⟩ : ∃ m, T.length = m := ⟨_, rfl⟩
    rw [hm] at d0 hok
    rw [he] at d4
    obtain ⟨i, hi⟩ : ∃ i, s.i = i := ⟨_, rfl⟩
    have HI := Lib.hid hi
    rw [hi] at d1 t0 t2 t3 hok
    have e1 : decide (i < m) = true := decide_eq_true hok
    obtain ⟨p, hp⟩ : ∃ p, (tokQ T s).pos = p := ⟨_, rfl⟩
    rw [hp] at t3 HF
    clear h ht hm he hi hp t0 t2
    go_enter Tryz.func47, Tryz.ntmps47
    go_wp2_with fail
    go_region
    go_end0
    refine ⟨rfl, ?_, fr2_drew (((Fr2.refl _ _).setCell (mine b) _).setCell (mine b) _)⟩
    rw [HF.out]
    exact HB.out.turn (fr2_drew (((Fr2.refl _ _).setCell (mine b) _).setCell (mine b) _)) ((HB2.out _).trans (by rw [HI.out]; rfl)) HB.out.ok
  · have d7 : ((s.e : Int) == 0) = false := beq_eq_false_iff_ne.2 (by omega)
    have d7' : (s.e == 0) = false := beq_eq_false_iff_ne.2 he
    have HF : Hid (failQ T n s = s) := Lib.hid (by unfold failQ; rw [if_neg he])
    clear h ht t0 t2 t3
    go_enter Tryz.func47, Tryz.ntmps47
    go_wp2_with fail
    go_end0
    exact ⟨rfl, by rw [HF.out]; exact HB.out, Fr2.refl _ _⟩

set_option maxRecDepth 100000 in
set_option maxHeartbeats 4000000 in
theorem is_c (x : List UInt8) (s : St) (w : World) (h : PAt w b q c T D s) : Calls Tryz.prog 46 #[.pointer (some ⟨b, 0, none⟩), .string ⟨x.toArray⟩] w (BPost b q c T D s (isQ T x s) w) := by
  obtain ⟨d0, d1, d2, d3, d4, d5, d6⟩ := cells6 h.box
  obtain ⟨g, off, rfl, ht, t0, t2, t3, hgb⟩ := h.tok
  have HB := Lib.hid h
  have hok := h.ok
  obtain ⟨m, hm⟩ : ∃ m, T.length = m := ⟨_, rfl⟩
  rw [hm] at d0 hok
  obtain ⟨i, hi⟩ : ∃ i, s.i = i := ⟨_, rfl⟩
  rw [hi] at d1 t0 t2 t3 hok
  have e1 : decide (i < m) = true := decide_eq_true hok
  obtain ⟨k, hk⟩ : ∃ k, (tokQ T s).kind = k := ⟨_, rfl⟩
  obtain ⟨y, hy⟩ : ∃ y, (tokQ T s).text = y := ⟨_, rfl⟩
  have HF : Hid (isQ T x s = decide (s.e = 0 ∧ (k = 2 ∨ k = 4) ∧ y = x)) := Lib.hid (by unfold isQ; rw [hk, hy])
  rw [hk] at t0
  rw [hy] at t2
  unfold strV at t2
  obtain ⟨yb, hyb⟩ : ∃ yb : ByteArray, (⟨y.toArray⟩ : ByteArray) = yb := ⟨_, rfl⟩
  obtain ⟨xb, hxb⟩ : ∃ xb : ByteArray, (⟨x.toArray⟩ : ByteArray) = xb := ⟨_, rfl⟩
  have e8 : (yb.toList == xb.toList) = decide (y = x) := by
    rw [← hyb, ← hxb, toList_data, toList_data]
    by_cases e : y = x
    · rw [e]; simp
    · simp [e]
  rw [hyb] at t2
  rw [hxb]
  obtain ⟨E, hE⟩ : ∃ E, s.e = E := ⟨_, rfl⟩
  rw [hE] at d4 HF
  have hX : ∀ v : Bool, isQ T x s = v → Hid (BPost b (some ⟨g, off, none⟩) c T D s (isQ T x s) w = BPost b (some ⟨g, off, none⟩) c T D s v w) := fun v e => Lib.hid (by rw [e])
  have fin : ∀ n m, PAt ((w.drewN n).drewN m) b (some ⟨g, off, none⟩) c T D s ∧ Fr2 (Self b) w ((w.drewN n).drewN m) := fun n m => ⟨HB.out.kept (gb_drewN (gb_drewN (gb_refl _ _) _) _), fr2_drewN (fr2_drewN (Fr2.refl _ _) _) _⟩
  have FIN := Lib.hid fin
  clear h ht hm hi hk hy t3 hyb hxb hE fin HB
  by_cases he : E = 0
  · subst he
    by_cases hkk : k = 2 ∨ k = 4
    · by_cases hyx : y = x
      · rw [decide_eq_true hyx] at e8
        rw [(hX true (by rw [HF.out]; exact decide_eq_true ⟨rfl, hkk, hyx⟩)).out]
        clear HF hX hyx
        rcases hkk with rfl | rfl
        all_goals
          go_enter Tryz.func46, Tryz.ntmps46
          go_wp2_with fail
          go_quiet (fail)
          go_wp2_with fail
          go_quiet (fail)
          go_wp2_with fail
          go_ret
          exact ⟨rfl, FIN.out _ _⟩
      · rw [decide_eq_false hyx] at e8
        rw [(hX false (by rw [HF.out]; exact decide_eq_false (fun e => hyx e.2.2))).out]
        clear HF hX hyx
        rcases hkk with rfl | rfl
        all_goals
          go_enter Tryz.func46, Tryz.ntmps46
          go_wp2_with fail
          go_quiet (fail)
          go_wp2_with fail
          go_quiet (fail)
          go_wp2_with fail
          go_ret
          exact ⟨rfl, FIN.out _ _⟩
    · have e2 : (k == 2) = false := beq_eq_false_iff_ne.2 (fun e => hkk (.inl e))
      have e4 : (k == 4) = false := beq_eq_false_iff_ne.2 (fun e => hkk (.inr e))
      have e2' : ((k : Int) == 2) = false := beq_eq_false_iff_ne.2 (fun e => hkk (.inl (by omega)))
      have e4' : ((k : Int) == 4) = false := beq_eq_false_iff_ne.2 (fun e => hkk (.inr (by omega)))
      rw [(hX false (by rw [HF.out]; exact decide_eq_false (fun e => hkk e.2.1))).out]
      clear HF hX hkk
      go_enter Tryz.func46, Tryz.ntmps46
      go_wp2_with fail
      go_quiet (fail)
      go_wp2_with fail
      go_quiet (fail)
      go_wp2_with fail
      go_ret
      exact ⟨rfl, FIN.out _ _⟩
  · have e2 : (E == 0) = false := beq_eq_false_iff_ne.2 he
    have e2' : ((E : Int) == 0) = false := beq_eq_false_iff_ne.2 (by omega)
    rw [(hX false (by rw [HF.out]; exact decide_eq_false (fun e => he e.1))).out]
    clear HF hX he
    go_enter Tryz.func46, Tryz.ntmps46
    go_wp2_with fail
    go_quiet (fail)
    go_wp2_with fail
    go_quiet (fail)
    go_wp2_with fail
    go_ret
    exact ⟨rfl, FIN.out _ _⟩

set_option maxRecDepth 100000 in
set_option maxHeartbeats 4000000 in
theorem leaf_c (hE : EndT T) (hR : roomQ T T.length ≤ 10000000) (s : St) (w : World) (h : PAt w b q c T D s) : Calls Tryz.prog 48 #[.pointer (some ⟨b, 0, none⟩)] w (RPost b q c T D (leafQ T s) w) := by
  obtain ⟨d0, d1, d2, d3, d4, d5, d6⟩ := cells6 h.box
  obtain ⟨g, off, rfl, ht, t0, t2, t3, hgb⟩ := h.tok
  have HB := Lib.hid h
  have hok := h.ok
  have hend := hE _ _ ht
  have htl := text_room h.ok
  have hll := len_room T
  obtain ⟨k, hk⟩ : ∃ k, (tokQ T s).kind = k := ⟨_, rfl⟩
  rw [hk] at t0 hend
  obtain ⟨yb, hyb⟩ : ∃ yb : ByteArray, (⟨(tokQ T s).text.toArray⟩ : ByteArray) = yb := ⟨_, rfl⟩
  have hyl : yb.data.toList = (tokQ T s).text := by rw [← hyb]
  have hys : yb.size ≤ 10000000 := by rw [qsize hyl]; omega
  have HYL := Lib.hid hyl
  unfold strV at t2
  rw [hyb] at t2
  have FIN1 := Lib.hid (fun n => (⟨HB.out.kept (gb_drewN (gb_refl _ _) _), fr2_drewN (Fr2.refl _ _) _⟩ : PAt (w.drewN n) b (some ⟨g, off, none⟩) c T D s ∧ Fr2 (Self b) w (w.drewN n)))
  by_cases h5 : k = 5
  · subst h5
    have HF : Hid (leafQ T s = ([32, 36], s)) := Lib.hid (by unfold leafQ; rw [if_pos hk])
    obtain ⟨m, hm⟩ : ∃ m, T.length = m := ⟨_, rfl⟩
    rw [hm] at d0 hok
    obtain ⟨i, hi⟩ : ∃ i, s.i = i := ⟨_, rfl⟩
    rw [hi] at d1 t0 t2 t3 hok
    have e1 : decide (i < m) = true := decide_eq_true hok
    rw [HF.out]
    clear h ht hm hi hk t3 hyl hyb htl hll hend hE hR HF HB
    go_enter Tryz.func48, Tryz.ntmps48
    go_wp2_with fail
    go_quiet (fail)
    go_wp2_with fail
    go_quiet (fail)
    go_wp2_with fail
    all_goals (try (exfalso; omega))
    go_ret
    exact ⟨⟨_, rfl, by rw [qapp]; rfl⟩, FIN1.out _⟩
  · have HF : Hid (leafQ T s = (32 :: (tokQ T s).text, { s with i := s.i + 1 })) := Lib.hid (by unfold leafQ; rw [if_neg (fun e => h5 (hk.symm.trans e))])
    have HO : Hid (s.i + 1 < T.length) := Lib.hid (by omega)
    have e5 : (k == 5) = false := beq_eq_false_iff_ne.2 h5
    have e5' : ((k : Int) == 5) = false := beq_eq_false_iff_ne.2 (by omega)
    have hiw : IntKind.i64.wrap ((s.i : Int) + 1) = (s.i : Int) + 1 := IntWalk.i64_in _ (by omega)
    obtain ⟨m, hm⟩ : ∃ m, T.length = m := ⟨_, rfl⟩
    rw [hm] at d0 hok
    obtain ⟨i, hi⟩ : ∃ i, s.i = i := ⟨_, rfl⟩
    have HI := Lib.hid hi
    rw [hi] at d1 t0 t2 t3 hok hiw
    have e1 : decide (i < m) = true := decide_eq_true hok
    rw [HF.out]
    clear h ht hm hi hk t3 hyl hyb htl hll hend hE hR HF
    go_enter Tryz.func48, Tryz.ntmps48
    go_wp2_with fail
    go_quiet (fail)
    go_wp2_with fail
    go_quiet (fail)
    go_wp2_with fail
    all_goals (try (exfalso; omega))
    go_ret
    have hf : ∀ (n : Nat) (v : Value), Fr2 (Self b) w ((w.drewN n).setCell ⟨b, 1, none⟩ v) := fun n v => (fr2_drewN (Fr2.refl _ _) n).setCell (mine b) v
    refine ⟨⟨_, rfl, by rw [qapp, HYL.out]; rfl⟩, ?_, hf _ _⟩
    exact HB.out.turn (hf _ _) ((set_cells (i := 1) (HB.out.kept (gb_drewN (gb_refl _ _) _)).box).trans (by rw [HI.out]; rfl)) HO.out
end
end Go.Proofs.YthclkbaankjbiaaGreatDoor
namespace Go.Proofs.YthclkbaankjbiaaGreatDoor
open Go.RowKit

section
variable (b : Nat) (q : Option Addr) (c : Nat) (T : List Tok) (D : Nat)

set_option maxRecDepth 100000 in
set_option maxHeartbeats 4000000 in
theorem must_c (hE : EndT T) (hR : roomQ T T.length ≤ 10000000) (x : List UInt8) (s : St) (w : World) (h : PAt w b q c T D s) : Calls Tryz.prog 49 #[.pointer (some ⟨b, 0, none⟩), .string ⟨x.toArray⟩] w (RPost b q c T D (mustQ T x s) w) := by
  have HI := Lib.hid (fun w h => is_c b q c T D x s w h)
  have HL := Lib.hid (fun w h => leaf_c b q c T D hE hR s w h)
  have HF := Lib.hid (fun w h => fail_c b q c T D 22 s w h)
  have HB := Lib.hid h
  have HM : Hid (mustQ T x s = if isQ T x s = true then leafQ T s else ([], failQ T 22 s)) := Lib.hid rfl
  clear h hE hR
  obtain ⟨xb, hxb⟩ : ∃ xb : ByteArray, (⟨x.toArray⟩ : ByteArray) = xb := ⟨_, rfl⟩
  rw [hxb] at HI ⊢
  clear hxb
  go_enter Tryz.func49, Tryz.ntmps49
  go_wp2_with fail
  refine (HI.out _ HB.out).mono ?_
  rintro e w1 ⟨rfl, h1, f1⟩
  have H1 := Lib.hid h1; have F1 := Lib.hid f1
  obtain ⟨v, hv⟩ : ∃ v, isQ T x s = v := ⟨_, rfl⟩
  rw [hv] at HM ⊢
  clear HI h1 f1 hv
  cases v
  · go_wp2_with fail
    refine (HF.out _ H1.out).mono ?_
    rintro e w2 ⟨rfl, h2, f2⟩
    have HZ : Hid (RPost b q c T D (mustQ T x s) w (.returned (.string ⟨#[]⟩)) w2) := Lib.hid (by rw [HM.out]; exact ⟨⟨_, rfl, rfl⟩, h2, F1.out.trans f2⟩)
    clear h2 f2
    go_wp2_with fail
    go_ret
    exact HZ.out
  · go_wp2_with fail
    refine (HL.out _ H1.out).mono ?_
    rintro e w2 ⟨⟨y, rfl, hy⟩, h2, f2⟩
    have HZ : Hid (RPost b q c T D (mustQ T x s) w (.returned (.string y)) w2) := Lib.hid (by rw [HM.out]; exact ⟨⟨_, rfl, hy⟩, h2, F1.out.trans f2⟩)
    clear h2 f2 hy
    go_wp2_with fail
    go_ret
    exact HZ.out

set_option maxRecDepth 100000 in
set_option maxHeartbeats 4000000 in
theorem nest_c (n : Nat) (s : St) (w : World) (h : PAt w b q c T D s) : Calls Tryz.prog 81 #[.pointer (some ⟨b, 0, none⟩), .int .i64 (n : Int)] w (SPost b q c T D (nestQ T D n s) w) := by
  obtain ⟨d0, d1, d2, d3, d4, d5, d6⟩ := cells6 h.box
  have HF := Lib.hid (fun w h => fail_c b q c T D 23 s w h)
  have HB := Lib.hid h
  have HM : Hid (nestQ T D n s = if D < n then failQ T 23 s else s) := Lib.hid rfl
  clear h
  by_cases hd : D < n
  · have e1 : decide (D < n) = true := decide_eq_true hd
    have e1' : decide ((D : Int) < (n : Int)) = true := decide_eq_true (by omega)
    rw [if_pos hd] at HM
    clear hd
    go_enter Tryz.func81, Tryz.ntmps81
    go_wp2_with fail
    refine (HF.out _ HB.out).mono ?_
    rintro e w2 ⟨rfl, h2, f2⟩
    have HZ : Hid (SPost b q c T D (nestQ T D n s) w (.returned (.tuple #[])) w2) := Lib.hid (by rw [HM.out]; exact ⟨rfl, h2, f2⟩)
    clear h2 f2
    go_wp2_with fail
    go_end0
    exact HZ.out
  · have e1 : decide (D < n) = false := decide_eq_false hd
    have e1' : decide ((D : Int) < (n : Int)) = false := decide_eq_false (by omega)
    rw [if_neg hd] at HM
    clear hd
    go_enter Tryz.func81, Tryz.ntmps81
    go_wp2_with fail
    go_end0
    rw [HM.out]
    exact ⟨rfl, HB.out, Fr2.refl _ _⟩

set_option maxRecDepth 100000 in
set_option maxHeartbeats 4000000 in
theorem kind_c (hE : EndT T) (hR : roomQ T T.length ≤ 10000000) (k : Nat) (s : St) (w : World) (h : PAt w b q c T D s) : Calls Tryz.prog 45 #[.pointer (some ⟨b, 0, none⟩), .int .i64 (k : Int)] w (RPost b q c T D (kindQ T k s) w) := by
  obtain ⟨d0, d1, d2, d3, d4, d5, d6⟩ := cells6 h.box
  obtain ⟨g, off, rfl, ht, t0, t2, t3, hgb⟩ := h.tok
  have HL := Lib.hid (fun w h => leaf_c b (some ⟨g, off, none⟩) c T D hE hR s w h)
  have HF := Lib.hid (fun w h => fail_c b (some ⟨g, off, none⟩) c T D 22 s w h)
  have HB := Lib.hid h
  have hok := h.ok
  have H1 := Lib.hid (fun n => (⟨HB.out.kept (gb_drewN (gb_refl _ _) _), fr2_drewN (Fr2.refl _ _) _⟩ : PAt (w.drewN n) b (some ⟨g, off, none⟩) c T D s ∧ Fr2 (Self b) w (w.drewN n)))
  obtain ⟨m, hm⟩ : ∃ m, T.length = m := ⟨_, rfl⟩
  rw [hm] at d0 hok
  obtain ⟨i, hi⟩ : ∃ i, s.i = i := ⟨_, rfl⟩
  rw [hi] at d1 t0 t2 t3 hok
  have e1 : decide (i < m) = true := decide_eq_true hok
  obtain ⟨kk, hk⟩ : ∃ kk, (tokQ T s).kind = kk := ⟨_, rfl⟩
  rw [hk] at t0
  obtain ⟨E, hEE⟩ : ∃ E, s.e = E := ⟨_, rfl⟩
  rw [hEE] at d4
  have HM : Hid (kindQ T k s = if E = 0 ∧ kk = k then leafQ T s else ([], failQ T 22 s)) := Lib.hid (by rw [← hEE, ← hk]; rfl)
  clear h ht hm hi hk t2 t3 hE hR hEE HB
  by_cases he : E = 0
  · subst he
    by_cases hk : kk = k
    · subst hk
      have e2 : (kk == kk) = true := beq_self_eq_true _
      have e2' : ((kk : Int) == (kk : Int)) = true := beq_self_eq_true _
      rw [if_pos ⟨rfl, rfl⟩] at HM
      go_enter Tryz.func45, Tryz.ntmps45
      go_wp2_with fail
      go_quiet (fail)
      go_wp2_with fail
      refine (HL.out _ (H1.out _).1).mono ?_
      rintro e w2 ⟨⟨y, rfl, hy⟩, h2, f2⟩
      have HZ : Hid (RPost b (some ⟨g, off, none⟩) c T D (kindQ T kk s) w (.returned (.string y)) w2) := Lib.hid (by rw [HM.out]; exact ⟨⟨_, rfl, hy⟩, h2, (H1.out _).2.trans f2⟩)
      clear h2 f2 hy
      go_wp2_with fail
      go_ret
      exact HZ.out
    · have e2 : (kk == k) = false := beq_eq_false_iff_ne.2 hk
      have e2' : ((kk : Int) == (k : Int)) = false := beq_eq_false_iff_ne.2 (by omega)
      rw [if_neg (fun e => hk e.2)] at HM
      clear hk
      go_enter Tryz.func45, Tryz.ntmps45
      go_wp2_with fail
      go_quiet (fail)
      go_wp2_with fail
      refine (HF.out _ (H1.out _).1).mono ?_
      rintro e w2 ⟨rfl, h2, f2⟩
      have HZ : Hid (RPost b (some ⟨g, off, none⟩) c T D (kindQ T k s) w (.returned (.string ⟨#[]⟩)) w2) := Lib.hid (by rw [HM.out]; exact ⟨⟨_, rfl, rfl⟩, h2, (H1.out _).2.trans f2⟩)
      clear h2 f2
      go_wp2_with fail
      go_ret
      exact HZ.out
  · have e2 : (E == 0) = false := beq_eq_false_iff_ne.2 he
    have e2' : ((E : Int) == 0) = false := beq_eq_false_iff_ne.2 (by omega)
    have e3 : (E != 0) = true := bne_iff_ne.2 he
    have e3' : ((E : Int) != 0) = true := bne_iff_ne.2 (by omega)
    rw [if_neg (fun e => he e.1)] at HM
    clear he
    go_enter Tryz.func45, Tryz.ntmps45
    go_wp2_with fail
    go_quiet (fail)
    go_wp2_with fail
    refine (HF.out _ (H1.out _).1).mono ?_
    rintro e w2 ⟨rfl, h2, f2⟩
    have HZ : Hid (RPost b (some ⟨g, off, none⟩) c T D (kindQ T k s) w (.returned (.string ⟨#[]⟩)) w2) := Lib.hid (by rw [HM.out]; exact ⟨⟨_, rfl, rfl⟩, h2, (H1.out _).2.trans f2⟩)
    clear h2 f2
    go_wp2_with fail
    go_ret
    exact HZ.out
end
end Go.Proofs.YthclkbaankjbiaaGreatDoor
