/- NewRow; a list as a window of a block, appended to. -/
import Derived.Test.YtljpgmhgnfnbkaaBRing5
import Derived.ArgAppend
namespace Go.Proofs.Ytljpgmhgnfnbkaa
open Go.RowKit Mx

def NewRowPost (zs : List Int) (w : World) (e : Ending) (w' : World) : Prop :=
  ∃ q rg R first pr f, e = .returned (.pointer (some ⟨q, 0, none⟩)) ∧ RowAt w' q rg R first pr f zs ∧ R ≤ 1000 ∧ w.heap.size ≤ q ∧ w.heap.size ≤ rg ∧ rg < w'.heap.size ∧ w.grownBy w' none

set_option maxRecDepth 100000 in
set_option maxHeartbeats 2000000 in
theorem NewRow_c (p : Option Addr) (c : Nat) (zs : List Int) (w : World) (hl : zs.length ≤ 400) (h : LAt w p zs) : Calls Try.prog 35 #[.slice p zs.length c] w (NewRowPost zs w) := by
  have hbx := heap_alloc_new w (.cells #[.slice none 0 0, .int .i64 0, .int .i64 0] 104)
  have hga := World.grownBy_alloc w (.cells #[.slice none 0 0, .int .i64 0, .int .i64 0] 104) none
  have hrow : RowAt (w.alloc (.cells #[.slice none 0 0, .int .i64 0, .int .i64 0] 104)) w.heap.size w.heap.size 0 0 none (fun _ => 0) [] := ⟨hbx, by simp, by omega, .inr ⟨rfl, rfl⟩, .inl rfl, fun j hj => by simp at hj⟩
  have HC := Lib.hid (Push_c p c zs (by simpa using hl) (by omega) hrow (h.kept hga) (fun h0 a ha => by have := h.blk h0 a ha; omega))
  have HG := Lib.hid hga
  clear hbx hga hrow h
  generalize zs.length = n at *
  go_enter Try.func35, Try.ntmps35
  go_wp2_with fail
  refine HC.out.mono ?_
  rintro e w2 ⟨rfl, ⟨rg, R, first, pr, f, hr, hR, hrg⟩, hfr⟩
  have HR := Lib.hid hr; have HF := Lib.hid hfr; have HRG := Lib.hid hrg; have HRR := Lib.hid hR
  clear hr hR hrg hfr
  go_wp2_with fail
  go_ret
  refine ⟨_, rg, R, first, pr, f, rfl, by simpa using HR.out, HRR.out, Nat.le_refl _, by have := HRG.out; simp at this; omega, ?_, Fr2.after HG.out HF.out (fun i hi => by omega)⟩
  have h1 := HRG.out
  have h2 := (Array.getElem?_eq_some_iff.1 HR.out.box).1
  rcases h1 with h1 | ⟨h1, h3⟩
  · rw [h1]; exact h2
  · exact (HR.out.ring.resolve_left (by omega)).2.2.lt

/-- A list as a window of a block. -/
def WinL (w : World) (p : Option Addr) (c gl : Nat) (zs : List Int) : Prop :=
  ∃ off cur, p = some ⟨gl, off, none⟩ ∧ zs.length ≤ c ∧ c ≤ maxLen ∧ w.heap[gl]? = some (.cells cur 3 (0, 0)) ∧ off + c ≤ cur.size ∧ ∀ j, j < zs.length → cur[off + j]? = some (.int .i64 (zs.getD j 0))

def WinN (w : World) (base : Nat) (p : Option Addr) (c gl : Nat) (zs : List Int) : Prop := (p = none ∧ c = 0 ∧ zs = []) ∨ (base ≤ gl ∧ WinL w p c gl zs)

theorem WinL.lat {w : World} {p : Option Addr} {c gl : Nat} {zs : List Int} (h : WinL w p c gl zs) : LAt w p zs := by
  obtain ⟨off, cur, rfl, h1, h2, h3, h4, h5⟩ := h
  exact .inr ⟨gl, off, rfl, (Array.getElem?_eq_some_iff.1 h3).1, fun j hj => by rw [cell_of_row w gl _ cur _ (0, 0) h3]; exact h5 j hj⟩

theorem WinN.lat {w : World} {base : Nat} {p : Option Addr} {c gl : Nat} {zs : List Int} (h : WinN w base p c gl zs) : LAt w p zs := by
  rcases h with ⟨_, _, rfl⟩ | ⟨_, h⟩
  · exact .inl rfl
  · exact h.lat

theorem WinN.keptS {S : Nat → Prop} {w w' : World} {base : Nat} {p : Option Addr} {c gl : Nat} {zs : List Int} (h : WinN w base p c gl zs) (hg : Fr2 S w w') (hS : ¬ S gl) : WinN w' base p c gl zs := by
  rcases h with h | ⟨hb, off, cur, h1, h2, h3, h4, h5⟩
  · exact .inl h
  · exact .inr ⟨hb, off, cur, h1, h2, h3, (hg.block gl (Array.getElem?_eq_some_iff.1 h4).1 hS).trans h4, h5⟩

theorem win_row {w : World} {base n c : Nat} {p : Option Addr} {zs : List Int} (h : OwnL w base (.slice p n c) zs) : ∃ gl, WinN w base p c gl zs := by
  rcases h.2 with ⟨e, h0⟩ | ⟨g, cap, cur, e, hb, hg, hnc, hcm, hs, ht⟩
  · injection e with e1 e2 e3
    exact ⟨0, .inl ⟨e1, e3, List.eq_nil_of_length_eq_zero h0⟩⟩
  · injection e with e1 e2 e3
    subst e1; subst e3
    refine ⟨g, .inr ⟨hb, 0, cur, rfl, hnc, hcm, hg, by omega, fun j hj => ?_⟩⟩
    have e : (cur.toList.take (zs.length * 1))[j]? = (zs.map (Value.int .i64))[j]? := by rw [ht]
    rw [List.getElem?_take, if_pos (by omega), Array.getElem?_toList] at e
    rw [Nat.zero_add, e]
    simp [List.getD, hj]

/-- append of two numbers to a window, as a step of the walk. -/
theorem wpList_appW {t : TypeId} (ht : Try.prog.underlying t = some (.slice 3))
    {w0 : World} {ops : Array Oper} {rest : List Oper} {o : Oper} {a : Act} {Q : Exit → Act → World → Prop} (hgd : o.guard = none) (s x : Operand) (ho : o.op = .call { callee := .builtin .append, args := #[s, x], argTypes := #[t, t] })
    (base gl : Nat) (zs : List Int) (y1 y2 : Int) (p : Option Addr) (n c : Nat) (hn : n = zs.length) (hs : a.eval s = .slice p n c) (hwin : WinN w0 base p c gl zs) (H : Nat) (hH : w0.heap.size = H) (hx : a.eval x = .slice (some ⟨H, 0, none⟩) 2 2) (hlen : zs.length ≤ 1000000) (hbase : base ≤ w0.heap.size)
    (K : ∀ p' n' c' gl' w', n' = zs.length + 2 → WinN w' base p' c' gl' (zs ++ [y1, y2]) → (gl' = gl ∨ w0.heap.size ≤ gl') → Fr2 (fun k => k = gl) w0 w' → wpList Try.prog ops Q rest (a.put o.dst (.slice p' n' c')) w') :
    wpList Try.prog ops Q (o :: rest) a (w0.alloc (.cells #[.int .i64 y1, .int .i64 y2] 3)) := by
  subst hH; subst hn
  obtain ⟨i0, hi, hi0, hi1, hi2⟩ := infoI_parts
  have hnew : ∀ j u, [Value.int .i64 y1, .int .i64 y2][j]? = some u → (w0.alloc (.cells #[.int .i64 y1, .int .i64 y2] 3)).cell? ((⟨w0.heap.size, 0, none⟩ : Addr).add j) = some u := by
    intro j u hj
    rw [Addr.add_lit, cell_of_row _ w0.heap.size _ _ _ (0, 0) (heap_alloc_new w0 _)]
    match j, hj with
    | 0, hj => simpa using hj
    | 1, hj => simpa using hj
  have h1c : ∀ u ∈ [Value.int .i64 y1, .int .i64 y2], u.oneCell' = true := by intro u hu; simp at hu; rcases hu with rfl | rfl <;> rfl
  have hga := World.grownBy_alloc w0 (.cells #[.int .i64 y1, .int .i64 y2] 3) none
  have hgrown : ∀ v' w', w'.ownsRow (w0.alloc (.cells #[.int .i64 y1, .int .i64 y2] 3)).heap.size 3 1 v' (zs.length + 2) (zs.map (Value.int .i64) ++ [.int .i64 y1, .int .i64 y2]) → (w0.alloc (.cells #[.int .i64 y1, .int .i64 y2] 3)).grownBy w' none → wpList Try.prog ops Q rest (a.put o.dst v') w' := by
    intro v' w' h1 h2
    have hown : OwnL w' (w0.alloc (.cells #[.int .i64 y1, .int .i64 y2] 3)).heap.size v' (zs ++ [y1, y2]) := by simpa [OwnL] using h1
    have hv : ∃ p' c', v' = .slice p' (zs.length + 2) c' := by
      rcases hown.2 with ⟨-, e2⟩ | ⟨g, cap, cur, e1, _⟩
      · simp at e2
      · exact ⟨some ⟨g, 0, none⟩, cap, by rw [e1]; simp⟩
    obtain ⟨p', c', rfl⟩ := hv
    obtain ⟨gl', hw⟩ := win_row hown
    refine K p' _ c' gl' w' rfl ?_ ?_ (Fr2.of (row := none) (gb_trans hga h2) (fun k e => by cases e))
    · rcases hw with h | ⟨hb, h⟩
      · exact .inl h
      · exact .inr ⟨by simp at hb; omega, h⟩
    · rcases hw with ⟨-, -, h⟩ | ⟨hb, h⟩
      · simp at h
      · exact .inr (by simp at hb; omega)
  rcases hwin with ⟨rfl, rfl, rfl⟩ | ⟨hb, off, cur, rfl, h1, h2, h3, h4, h5⟩
  · exact wpList_append_grows (P := Try.prog) _ hgd s x t ho 3 i0 (.int .i64 0) 1 8 ht hi hi0 hi1 hi2 rfl (by decide) none 0 0 [] hs (fun _ => ⟨rfl, rfl⟩) rfl (fun b hb => by cases hb) ⟨w0.heap.size, 0, none⟩ 2 2 [.int .i64 y1, .int .i64 y2] hx rfl hnew h1c (by omega) (by unfold maxLen; omega) (by omega) (fun v' w' k1 k2 => hgrown v' w' (by simpa using k1) k2)
  · have hg0 := (Array.getElem?_eq_some_iff.1 h3).1
    have h3a := bx hga h3
    refine wpList_append_arg (P := Try.prog) _ hgd s x t ho 3 i0 (.int .i64 0) 1 8 ht hi hi0 hi1 hi2 rfl (by decide) gl off zs.length c (zs.map (Value.int .i64)) hs (by simp) (fun j u hj => ?_) ⟨w0.heap.size, 0, none⟩ 2 2 [.int .i64 y1, .int .i64 y2] hx rfl hnew h1c (fun hr j hj => ?_) (by unfold maxLen; omega) (by omega) (fun hr => ?_) (fun hr v' w' k1 k2 => hgrown v' w' k1 k2)
    · have hjl : j < zs.length := by have := (List.getElem?_eq_some_iff.1 hj).1; simpa using this
      rw [cell_of_row _ gl _ cur _ (0, 0) h3a, h5 j hjl]
      have e : (zs.map (Value.int .i64))[j]? = some (Value.int .i64 (zs.getD j 0)) := by simp [List.getD, hjl]
      rw [e] at hj; exact hj
    · have hj : j < 2 := by simpa using hj
      refine ⟨?_, by simp [World.frozen?, h3a]⟩
      rw [cell_of_row _ gl _ cur _ (0, 0) h3a, Array.getElem?_eq_getElem (by omega)]; rfl
    · have hset : ((w0.alloc (.cells #[.int .i64 y1, .int .i64 y2] 3)).setCells gl (off + zs.length * 1) [.int .i64 y1, .int .i64 y2]).heap[gl]? = some (.cells ((cur.setIfInBounds (off + zs.length * 1) (.int .i64 y1)).setIfInBounds (off + zs.length * 1 + 1) (.int .i64 y2)) 3 (0, 0)) := by
        have e1 : ((w0.alloc (.cells #[.int .i64 y1, .int .i64 y2] 3)).setCell ⟨gl, off + zs.length * 1, none⟩ (.int .i64 y1)).heap[gl]? = some (.cells (cur.setIfInBounds (off + zs.length * 1) (.int .i64 y1)) 3 (0, 0)) := by
          simp only [World.setCell, Array.getElem?_modify, h3a, if_true, Option.map_some]; rfl
        simp only [World.setCells]
        rw [World.setCell]
        simp only [Array.getElem?_modify, e1, if_true, Option.map_some]; rfl
      refine K _ _ c gl _ rfl (.inr ⟨hb, off, _, rfl, by simp; omega, h2, hset, by simpa using h4, fun j hj => ?_⟩) (.inl rfl) (Fr2.trans (Fr2.of (row := none) hga (fun k e => by cases e)) (Fr2.of (gb_setCells gl _ _ _) (fun k e => by simp at e; exact e.symm)))
      have hj : j < zs.length + 2 := by simpa using hj
      rw [Array.getElem?_setIfInBounds, Array.getElem?_setIfInBounds]
      by_cases e1 : j = zs.length + 1
      · subst e1
        rw [if_pos (by omega), if_pos (by simp; omega)]
        simp [List.getD]
      · rw [if_neg (by omega)]
        by_cases e2 : j = zs.length
        · subst e2
          rw [if_pos (by omega), if_pos (by omega)]
          simp [List.getD]
        · rw [if_neg (by omega), h5 j (by omega)]
          simp [List.getD, List.getElem?_append_left (show j < zs.length by omega)]
end Go.Proofs.Ytljpgmhgnfnbkaa
