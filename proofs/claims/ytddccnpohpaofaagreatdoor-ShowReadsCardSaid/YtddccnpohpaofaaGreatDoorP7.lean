/- Lemmas. -/
import Derived.Test.YtddccnpohpaofaaGreatDoorP6
set_option linter.unusedVariables false
set_option linter.unusedSimpArgs false
namespace Go.Proofs.YtddccnpohpaofaaGreatDoor
open Go.RowKit

def tokA (t : Tok) : Value := .agg #[.int .i64 (t.kind : Int), strV t.lead, strV t.text, .int .i64 (t.pos : Int)]

set_option maxRecDepth 100000 in
set_option maxHeartbeats 8000000 in
theorem Peek_c (b : Nat) (l : List Tok) (u : Nat) (N : List Nd) (vn : Value) (t : Tok) (w : World) (hl : l.length ≤ 100000) (hu : u ≤ l.length) (hs : Short l) (ht : l[min u (l.length - 1)]? = some t) (h : BldV w b l u N vn) :
    Calls Tryz.prog 40 #[.pointer (some ⟨b, 0, none⟩)] w (ValPost (tokA t) w) := by
  obtain ⟨pt, ct, K, h⟩ := h
  have hbox := h.box
  have hpos : 0 < l.length := by have := (List.getElem?_eq_some_iff.1 ht).1; omega
  obtain ⟨hs1, hs2⟩ := hs t (List.mem_of_getElem? ht)
  obtain ⟨g, off, rfl, hgl, hc⟩ := h.toks.resolve_left (fun e => by rw [e] at hpos; simp at hpos)
  obtain ⟨j, hj⟩ : ∃ j, min u (l.length - 1) = j := ⟨_, rfl⟩
  rw [hj] at ht
  obtain ⟨c0, c1, c2, c3⟩ := hc j t ht
  unfold strV at c1 c2
  obtain ⟨x, hx⟩ : ∃ x : ByteArray, (⟨t.lead.toArray⟩ : ByteArray) = x := ⟨_, rfl⟩
  obtain ⟨y, hy⟩ : ∃ y : ByteArray, (⟨t.text.toArray⟩ : ByteArray) = y := ⟨_, rfl⟩
  have hxs : x.size ≤ 1000000 := by rw [← list_len, ← hx]; exact hs1
  have hys : y.size ≤ 1000000 := by rw [← list_len, ← hy]; exact hs2
  have HTA : Hid (tokA t = .agg #[.int .i64 (t.kind : Int), .string x, .string y, .int .i64 (t.pos : Int)]) := Lib.hid (by unfold tokA strV; rw [hx, hy])
  rw [hx] at c1
  rw [hy] at c2
  have HOT := Lib.hid (fun W => ownToken_c (t.kind : Int) (t.pos : Int) x y W hxs hys)
  rw [HTA.out]
  generalize (t.kind : Int) = tk at *
  generalize (t.pos : Int) = tp at *
  have hjl := (List.getElem?_eq_some_iff.1 ht).1
  obtain ⟨m, hm⟩ : ∃ m, l.length = m := ⟨_, rfl⟩
  rw [hm] at hbox hl hu hj hpos hjl
  obtain ⟨m1, hm1⟩ : ∃ m1, m - 1 = m1 := ⟨_, rfl⟩
  rw [hm1] at hj
  have hw1 : IntKind.i64.wrap ((m : Int) - 1) = (m1 : Int) := by rw [IntWalk.i64_in _ (by omega)]; omega
  have hmin : min (u : Int) (m1 : Int) = (j : Int) := by omega
  have e1 : ((m : Int) == 0) = false := beq_eq_false_iff_ne.2 (by omega)
  have e2 : (m == 0) = false := beq_eq_false_iff_ne.2 (by omega)
  obtain ⟨d0, d1, d2, d3⟩ := cells3' hbox
  have hbw := hlt' hbox
  have HBX := Lib.hid hbox
  clear hbox hm h hc hx hy hxs hys hs1 hs2 ht hm1 hs HTA
  go_enter Tryz.func40, Tryz.ntmps40
  go_wp2_with fail
  have hR := heap_alloc_new w (.cells #[.int .i64 0, .string ⟨#[]⟩, .string ⟨#[]⟩, .int .i64 0] 98)
  have hgR := World.grownBy_alloc w (.cells #[.int .i64 0, .string ⟨#[]⟩, .string ⟨#[]⟩, .int .i64 0] 98) none
  have c0 := hgR.cell c0 (by simp)
  have c1 := hgR.cell c1 (by simp)
  have c2 := hgR.cell c2 (by simp)
  have c3 := hgR.cell c3 (by simp)
  obtain ⟨d0, d1, d2, d3⟩ := cells3' (bx hgR HBX.out)
  generalize (w.alloc (.cells #[.int .i64 0, .string ⟨#[]⟩, .string ⟨#[]⟩, .int .i64 0] 98)) = W at *
  obtain ⟨B, hB⟩ : ∃ B, w.heap.size = B := ⟨_, rfl⟩
  have HBW := Lib.hid hB
  rw [hB] at hR ⊢
  have HR := Lib.hid hR; have HGR := Lib.hid hgR
  clear hR hgR hB
  go_region_with (go_at_call 69; refine (HOT.out _).mono ?_; rintro e w2 ⟨rfl, hg2⟩; have hr2 := bx hg2 HR.out; obtain ⟨f0, f1, f2, f3, f4⟩ := cells4' hr2; have HR2 := Lib.hid hr2; have HG2 := Lib.hid (gb_trans (show W.grownBy _ none from (by repeat (first | with_reducible exact gb_refl _ _ | with_reducible refine gb_drew ?_))) hg2); clear hg2 hr2)
  all_goals
    have HR3 := Lib.hid (set_cells (i := 3) (u := .int .i64 tp) (set_cells (i := 2) (u := .string y) (set_cells (i := 1) (u := .string x) (set_cells (i := 0) (u := .int .i64 tk) HR2.out))))
    have HF3 := Lib.hid ((((Fr2.setCell (S := fun k => k = B) (Fr2.refl _ w2) (g := B) (j := 0) rfl (.int .i64 tk)).setCell (g := B) (j := 1) rfl (.string x)).setCell (g := B) (j := 2) rfl (.string y)).setCell (g := B) (j := 3) rfl (.int .i64 tp))
    clear f0 f1 f2 f3 f4 d0 d1 d2 d3 c0 c1 c2 c3
    go_wp2_with fail
    obtain ⟨k0, k1, k2, k3, -⟩ := cells4' HR3.out
    refine bodyPost_ret (v := .agg #[.int .i64 tk, .string x, .string y, .int .i64 tp]) (by simp [results, Tryz.results40, go_sem, k0, k1, k2, k3]) rfl ⟨rfl, Fr2.after (gb_trans HGR.out HG2.out) HF3.out (fun j hj => by rw [HBW.out]; omega)⟩

/-! ### Done -/

/-- Nodes of one's own: their row, and their kids elsewhere. -/
structure Nown (w : World) (base : Nat) (vn : Value) (N : List Nd) (K : Kf) : Prop where
  own : OwnG 3 110 w base vn (ndsV K N)
  kids : KidsAt w N K
  khi : ∀ (i : Nat) (x : Nd), N[i]? = some x → x.kids ≠ [] → ∀ a, (K i).1 = some a → base ≤ a.block ∧ a.block < w.heap.size ∧ vn.ownBlock ≠ some a.block

theorem Nown.kept {w w' : World} {base : Nat} {vn : Value} {N : List Nd} {K : Kf} (h : Nown w base vn N K) (hg : w.grownBy w' none) : Nown w' base vn N K :=
  ⟨h.own.kept hg, fun i x hx => (h.kids i x hx).kept hg, fun i x hx hn a ha => by
    obtain ⟨h1, h2, h3⟩ := h.khi i x hx hn a ha
    exact ⟨h1, Nat.lt_of_lt_of_le h2 hg.size, h3⟩⟩

theorem Nown.add {w w5 : World} {base : Nat} {vn : Value} {N : List Nd} {K : Kf} (h : Nown w base vn N K) (hf : w.grownBy w5 vn.ownBlock) {g9 n9 cap9 : Nat} {x : Nd} {p : Option Addr} {c : Nat}
    (hown : OwnG 3 110 w5 base (.slice (some ⟨g9, 0, none⟩) n9 cap9) (ndsV K N ++ [[.int .i64 x.kind, .int .i64 x.tok, .slice p x.kids.length c]])) (hk : VAt w p (intsV x.kids)) (hkb : x.kids ≠ [] → ∀ a, p = some a → base ≤ a.block ∧ vn.ownBlock ≠ some a.block)
    (hl9 : vn.ownBlock = some g9 ∨ w.heap.size ≤ g9) : ∃ K', Nown w5 base (.slice (some ⟨g9, 0, none⟩) n9 cap9) (N ++ [x]) K' := by
  obtain ⟨K', hK1, hK2⟩ := kf_snoc K N.length p c
  have hf2 : Fr2 (fun k => vn.ownBlock = some k) w w5 := Fr2.of hf (fun k e => e)
  have hkn : ∀ (i : Nat) (y : Nd), (N ++ [x])[i]? = some y → (i < N.length ∧ N[i]? = some y ∧ K' i = K i) ∨ (i = N.length ∧ y = x ∧ K' i = (p, c)) := fun i y hy => by
    by_cases hi : i < N.length
    · rw [List.getElem?_append_left hi] at hy; exact .inl ⟨hi, hy, hK2 i (by omega)⟩
    · have h1 := (List.getElem?_eq_some_iff.1 hy).1
      rw [List.length_append, List.length_singleton] at h1
      obtain rfl : i = N.length := by omega
      rw [List.getElem?_append_right (Nat.le_refl _)] at hy
      simp at hy
      exact .inr ⟨rfl, hy.symm, hK1⟩
  have hx9 : ∀ k, (Value.slice (some ⟨g9, 0, none⟩) n9 cap9).ownBlock = some k → g9 = k := fun k e => by simpa [Value.ownBlock] using e
  refine ⟨K', by rw [ndsV_snoc hK1 hK2]; exact hown, fun i y hy => ?_, fun i y hy hn a ha => ?_⟩
  · rcases hkn i y hy with ⟨-, hy, e⟩ | ⟨-, rfl, e⟩
    · rw [e]
      exact (h.kids i y hy).keptF hf2 fun h0 a ha => (h.khi i y hy (intsV_ne h0) a ha).2.2
    · rw [e]
      exact hk.keptF hf2 fun h0 a ha => (hkb (intsV_ne h0) a ha).2
  · rcases hkn i y hy with ⟨-, hy, e⟩ | ⟨-, rfl, e⟩
    · rw [e] at ha
      obtain ⟨h1, h2, h3⟩ := h.khi i y hy hn a ha
      refine ⟨h1, Nat.lt_of_lt_of_le h2 hf2.size, fun e9 => ?_⟩
      have := hx9 _ e9
      subst this
      rcases hl9 with h | h
      · exact h3 h
      · omega
    · rw [e] at ha
      obtain ⟨h1, h3⟩ := hkb hn a ha
      have h2 := hk.lt (ne_intsV hn) a ha
      refine ⟨h1, Nat.lt_of_lt_of_le h2 hf2.size, fun e9 => ?_⟩
      have := hx9 _ e9
      subst this
      rcases hl9 with h | h
      · exact h3 h
      · omega

end Go.Proofs.YtddccnpohpaofaaGreatDoor
