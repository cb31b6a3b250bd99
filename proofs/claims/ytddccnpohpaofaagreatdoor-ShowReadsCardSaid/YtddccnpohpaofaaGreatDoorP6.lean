/- Lemmas. -/
import Derived.Test.YtddccnpohpaofaaGreatDoorP5
set_option linter.unusedVariables false
set_option linter.unusedSimpArgs false
namespace Go.Proofs.YtddccnpohpaofaaGreatDoor
open Go.RowKit

theorem infoLT : (Tryz.prog.info? 98).map (fun i => (i.zero, i.size, i.bytes)) = some (some (.agg #[.int .i64 0, .string ⟨#[]⟩, .string ⟨#[]⟩, .int .i64 0]), 4, 48) := by kernel_rfl
theorem infoTN : (Tryz.prog.info? 110).map (fun i => (i.zero, i.size, i.bytes)) = some (some (.agg #[.int .i64 0, .int .i64 0, .slice none 0 0]), 3, 40) := by kernel_rfl

def rowT (l : List Tok) : List (List Value) := l.map tokV
theorem rowT_len (l : List Tok) : (rowT l).length = l.length := List.length_map _
theorem rowT_next {l : List Tok} {k : Nat} {t : Tok} (h : l[k]? = some t) : (rowT l).take (k + 1) = (rowT l).take k ++ [tokV t] := by
  rw [List.take_add_one]; unfold rowT; rw [List.getElem?_map, h]; rfl
theorem t_of_g {w : World} {p : Option Addr} {l : List Tok} (h : GAt 4 w p (rowT l)) : TAt w p l := by
  rcases h with h | ⟨g, off, rfl, hl, hc⟩
  · exact .inl (List.map_eq_nil_iff.1 h)
  · refine .inr ⟨g, off, rfl, hl, fun j q hj => ?_⟩
    have h1 : (rowT l)[j]? = some (tokV q) := by unfold rowT; rw [List.getElem?_map, hj]; rfl
    exact ⟨hc j _ h1 0 _ rfl, hc j _ h1 1 _ rfl, hc j _ h1 2 _ rfl, hc j _ h1 3 _ rfl⟩
theorem tokV_one (t : Tok) : ∀ u ∈ tokV t, u.oneCell' = true := fun u hu => by unfold tokV strV at hu; simp at hu; rcases hu with rfl | rfl | rfl | rfl <;> rfl

def OwnsT (l : List Tok) (w : World) (e : Ending) (w' : World) : Prop := ∃ v, e = .returned v ∧ OwnG 4 98 w' w.heap.size v (rowT l) ∧ w.grownBy w' none

/-- Every text of the tokens is short. -/
def Short (l : List Tok) : Prop := ∀ t ∈ l, t.lead.length ≤ 1000000 ∧ t.text.length ≤ 1000000

set_option maxRecDepth 100000 in
set_option maxHeartbeats 8000000 in
theorem ownTokens_c (l : List Tok) (q : Option Addr) (c : Nat) (w : World) (hl : l.length ≤ 100000) (hs : Short l) (h : TAt w q l) :
    Calls Tryz.prog 68 #[.slice q l.length c] w (OwnsT l w) := by
  obtain ⟨m, hm⟩ : ∃ m, l.length = m := ⟨_, rfl⟩
  have HM := Lib.hid hm; have HA := Lib.hid h; have HSH := Lib.hid hs
  rw [hm] at hl ⊢
  clear hm h hs
  obtain ⟨B, hB⟩ : ∃ B, w.heap.size = B := ⟨_, rfl⟩
  have HBW := Lib.hid hB
  have HP : Hid (∀ v w', OwnG 4 98 w' B v (rowT l) → Below B w w' → OwnsT l w (.returned v) w') := Lib.hid (fun v w' h1 h2 => ⟨v, rfl, by rw [hB]; exact h1, below_gb (by rw [hB]; exact h2)⟩)
  clear hB
  go_enter Tryz.func68, Tryz.ntmps68
  go_wp2_with fail
  go_loopw [3, 8] (fun ov iv wr => ∃ k : Nat, k ≤ m ∧ iv = .int .i64 k ∧ Hid (OwnG 4 98 wr B ov ((rowT l).take k)) ∧ Hid (Below B w wr)) (fun _ v _ => m - (intOf v).toNat)
  case atStart => exact ⟨0, Nat.zero_le _, rfl, Lib.hid (OwnG.nil _ _ _ _), Lib.hid (Below.refl _ _)⟩
  case round =>
    obtain ⟨k, hk, rfl, HO, HB⟩ := hrel
    have HG : Hid (w.grownBy wr none) := Lib.hid (below_gb (by rw [HBW.out]; exact HB.out))
    by_cases hlt : k < m
    · have d1 : decide ((k : Int) < (m : Int)) = true := decide_eq_true (by omega)
      have d1' : decide (k < m) = true := decide_eq_true hlt
      obtain ⟨t, ht⟩ : ∃ t, l[k]? = some t := ⟨l[k]'(by rw [HM.out]; exact hlt), List.getElem?_eq_getElem _⟩
      obtain ⟨g, off, rfl, hgl, hc⟩ := HA.out.resolve_left (fun h => by have h1 := HM.out; rw [h] at h1; simp at h1; omega)
      obtain ⟨c0, c1, c2, c3⟩ := hc k t ht
      have c0 := HG.out.cell c0 (by simp)
      have c1 := HG.out.cell c1 (by simp)
      have c2 := HG.out.cell c2 (by simp)
      have c3 := HG.out.cell c3 (by simp)
      have HNX := Lib.hid (rowT_next ht)
      obtain ⟨hs1, hs2⟩ := HSH.out t (List.mem_of_getElem? ht)
      unfold strV at c1 c2
      obtain ⟨x, hx⟩ : ∃ x : ByteArray, (⟨t.lead.toArray⟩ : ByteArray) = x := ⟨_, rfl⟩
      obtain ⟨y, hy⟩ : ∃ y : ByteArray, (⟨t.text.toArray⟩ : ByteArray) = y := ⟨_, rfl⟩
      have hxs : x.size ≤ 1000000 := by rw [← list_len, ← hx]; exact hs1
      have hys : y.size ≤ 1000000 := by rw [← list_len, ← hy]; exact hs2
      have HTV : Hid (tokV t = [.int .i64 (t.kind : Int), .string x, .string y, .int .i64 (t.pos : Int)]) := Lib.hid (by unfold tokV strV; rw [hx, hy])
      rw [hx] at c1
      rw [hy] at c2
      have H1C := Lib.hid (tokV_one t)
      have HLE : Hid (((rowT l).take k).length ≤ 1000000) := Lib.hid (by rw [List.length_take, rowT_len, HM.out]; omega)
      have HTK : Hid (((rowT l).take k).length = k) := Lib.hid (by rw [List.length_take, rowT_len, HM.out]; omega)
      have HOT := Lib.hid (fun W => ownToken_c (t.kind : Int) (t.pos : Int) x y W hxs hys)
      generalize (t.kind : Int) = tk at *
      generalize (t.pos : Int) = tp at *
      generalize (rowT l).take k = LK at HO HNX HLE HTK
      have hgX := World.grownBy_alloc wr (.cells #[.int .i64 tk, .string x, .string y, .int .i64 tp] 98) none
      have HX := Lib.hid (heap_alloc_new wr (.cells #[.int .i64 tk, .string x, .string y, .int .i64 tp] 98))
      have hgw : g < wr.heap.size := Nat.lt_of_lt_of_le hgl HG.out.size
      clear hc hx hy hxs hys hs1 hs2 ht
      go_wp2_with fail
      refine (HOT.out _).mono ?_
      rintro e w2 ⟨rfl, hg2⟩
      have HG2 := Lib.hid (gb_trans hgX hg2)
      have HO2 := Lib.hid (HO.out.kept HG2.out)
      have HB2 := Lib.hid (Below.trans2 HB.out (Below.gb HG2.out (by have := HB.out.size; have := HBW.out; omega)))
      have hB2 : B ≤ w2.heap.size := by have := HB2.out.size; have := HBW.out; omega
      clear hg2 hgX HX HO HB HG c0 c1 c2 c3
      go_wp2_with (at_builtin; go_loud (refine wpList_appGl (s := 4) (t := 39) (T := 98) (by decide) Tryz.underlying39 infoLT rfl (by omega) rfl _ _ rfl B LK (tokV t) (by rw [HTV.out]; rfl) H1C.out u3 rfl (OwnG.kept HO2.out (World.grownBy_alloc w2 _ none)) w2.heap.size _ (by rw [HTV.out]) (heap_alloc_new w2 _) rfl HLE.out (by simp; omega) (w2.heap.size + 1) (by simp) ?_))
      intro g9 cap9 w9 hO9 hg9 _
      rw [← HNX.out, HTK.out] at hO9
      have HO9 := Lib.hid hO9
      have HB9 := Lib.hid ((Below.trans2 HB2.out (Below.gb (World.grownBy_alloc w2 _ none) hB2)).grown hg9 (by simp; omega) (fun k e => (OwnG.at HO2.out k e).1))
      rw [HTK.out]
      clear hO9 hg9 HO2 HB2
      go_wp2_with fail
      go_roundw
      case rel => exact ⟨k + 1, by omega, by go_num, HO9, HB9⟩
      case measure => (simp [intOf] <;> omega)
    · obtain rfl : k = m := by omega
      rw [List.take_of_length_le (l := rowT l) (i := k) (by rw [rowT_len, HM.out]; exact Nat.le_refl _)] at HO
      go_wp2_with fail
      go_ret
      exact HP.out _ _ HO.out HB.out

/-! ### Nodes -/

theorem cells3' {w : World} {r : Nat} {a b c : Value} {T : TypeId} (h : w.heap[r]? = some (.cells #[a, b, c] T (0, 0))) : w.cell? ⟨r, 0, none⟩ = some a ∧ w.cell? ⟨r, 1, none⟩ = some b ∧ w.cell? ⟨r, 2, none⟩ = some c ∧ ∀ o, w.frozen? ⟨r, o, none⟩ = false :=
  ⟨by rw [cell_of_row w r 0 _ T (0, 0) h]; rfl, by rw [cell_of_row w r 1 _ T (0, 0) h]; rfl, by rw [cell_of_row w r 2 _ T (0, 0) h]; rfl, fun o => by simp [World.frozen?, h]⟩

def OwnsN (k t : Int) (l : List Int) (w : World) (e : Ending) (w' : World) : Prop := w.grownBy w' none ∧ ∃ p c, e = .returned (.agg #[.int .i64 k, .int .i64 t, .slice p l.length c]) ∧ VAt w' p (intsV l) ∧ l.length ≤ c ∧ (l ≠ [] → ∀ a, p = some a → w.heap.size ≤ a.block ∧ a.block < w'.heap.size)

set_option maxRecDepth 100000 in
set_option maxHeartbeats 8000000 in
theorem ownNode_c (k t : Int) (l : List Int) (q : Option Addr) (c : Nat) (w : World) (hl : l.length ≤ 100000) (h : VAt w q (intsV l)) :
    Calls Tryz.prog 70 #[.agg #[.int .i64 k, .int .i64 t, .slice q l.length c]] w (OwnsN k t l w) := by
  have HP : Hid (∀ p n c w', n = l.length → w.grownBy w' none → OwnL w' w.heap.size (.slice p n c) l → OwnsN k t l w (.returned (.agg #[.int .i64 k, .int .i64 t, .slice p n c])) w') := Lib.hid (fun p n c w' hn hg ho => by
    subst hn
    obtain ⟨p', c', e, hv, h1, -, h2⟩ := ho.parts
    injection e with e1 e2 e3
    subst e1; subst e3
    exact ⟨hg, p, c, rfl, hv, h1, fun hne a ha => ⟨h2 hne a ha, by
      subst ha
      obtain ⟨g, off, e, hl, -⟩ := hv.resolve_left (fun h0 => hne (List.length_eq_zero_iff.1 (by have := congrArg List.length h0; rwa [intsV_len] at this)))
      cases e; exact hl⟩⟩)
  have HV := Lib.hid h
  have HLL : Hid ((one (intsV l)).length = l.length) := Lib.hid (by rw [one_len, intsV_len])
  obtain ⟨m, hm⟩ : ∃ m, l.length = m := ⟨_, rfl⟩
  rw [hm] at HP HLL hl ⊢
  clear hm h
  go_enter Tryz.func70, Tryz.ntmps70
  have HZ := Lib.hid (OwnG.nil 1 3)
  have hA := heap_alloc_new w (.cells #[.int .i64 k, .int .i64 t, .slice q m c] 110)
  have hgA := World.grownBy_alloc w (.cells #[.int .i64 k, .int .i64 t, .slice q m c] 110) none
  have hsA : (w.alloc (.cells #[.int .i64 k, .int .i64 t, .slice q m c] 110)).heap.size = w.heap.size + 1 := by simp
  go_upto_region 1 with fail
  generalize (w.alloc (.cells #[.int .i64 k, .int .i64 t, .slice q m c] 110)) = W1 at *
  have hB := heap_alloc_new W1 (.cells #[.int .i64 0, .int .i64 0, .slice none 0 0] 110)
  have hgB := World.grownBy_alloc W1 (.cells #[.int .i64 0, .int .i64 0, .slice none 0 0] 110) none
  have hsB : (W1.alloc (.cells #[.int .i64 0, .int .i64 0, .slice none 0 0] 110)).heap.size = w.heap.size + 2 := by simp [hsA]
  rw [hsA] at hB
  generalize (W1.alloc (.cells #[.int .i64 0, .int .i64 0, .slice none 0 0] 110)) = W at *
  obtain ⟨b, hb⟩ : ∃ b, w.heap.size = b := ⟨_, rfl⟩
  have HBW := Lib.hid hb
  rw [hb] at hA hB hsB ⊢
  obtain ⟨b1, hb1⟩ : ∃ x, b + 1 = x := ⟨_, rfl⟩
  rw [hb1] at hB ⊢
  have hlt : b < b1 := by omega
  have hb2 : b1 < W.heap.size := by omega
  have hb2' : b + 2 ≤ W.heap.size := by omega
  have hb3 : b1 < b + 2 := by omega
  have HA := Lib.hid (bx hgB hA); have HB := Lib.hid hB; have HG0 := Lib.hid (gb_trans hgA hgB)
  have HVG := Lib.hid (g_of_v (HV.out.kept HG0.out))
  clear hA hB hgA hgB hsA hsB hb hb1
  obtain ⟨a0, a1, a2, a3⟩ := cells3' HA.out
  go_wp2_with (at_builtin; go_loud (refine wpList_appGs (s := 1) (t := 70) (T := 3) (by decide) Tryz.underlying70 infoI rfl (by omega) rfl _ _ rfl (b + 2) [] (one (intsV l)) (one_wid (intsV_one l)) (.slice none 0 0) rfl (HZ.out _ _) q m c rfl HLL.out HVG.out (by simp) (by omega) hb2' ?_))
  intro p9 n9 cap9 w9 hn9 hO9 hB9 hg9
  obtain rfl : n9 = m := by simpa using hn9
  have hO9 : OwnG 1 3 w9 (b + 2) (.slice p9 n9 cap9) (one (intsV l)) := hO9
  have HO9 := Lib.hid hO9
  have HB9 := Lib.hid hB9
  have hA9 := (hB9.block b (by omega)).trans HA.out
  have hC9 := (hB9.block b1 (by omega)).trans HB.out
  have hA10 := set_cells (i := 2) (u := .slice p9 n9 cap9) hA9
  have HF10 := Lib.hid (Fr2.setCell (S := fun k => k = b ∨ k = b1) (Fr2.refl _ w9) (g := b) (j := 2) (.inl rfl) (.slice p9 n9 cap9))
  have hC10 := (Below.heap_setCell w9 ⟨b, 2, none⟩ (.slice p9 n9 cap9) b1 (by first | omega | (simp; omega))).trans hC9
  obtain ⟨d0, d1, d2, d3⟩ := cells3' hA9
  obtain ⟨f0, f1, f2, f3⟩ := cells3' hC9
  have HC11 := Lib.hid (set_cells (i := 2) (u := .slice p9 n9 cap9) (set_cells (i := 1) (u := .int .i64 t) (set_cells (i := 0) (u := .int .i64 k) hC10)))
  have HF11 := Lib.hid (((HF10.out.setCell (g := b1) (j := 0) (.inr rfl) (.int .i64 k)).setCell (g := b1) (j := 1) (.inr rfl) (.int .i64 t)).setCell (g := b1) (j := 2) (.inr rfl) (.slice p9 n9 cap9))
  clear hn9 hO9 hB9 hg9 a0 a1 a2 a3 HA HB hA9 hC9 hA10 hC10 HF10
  go_wp2_with fail
  obtain ⟨k0, k1, k2, -⟩ := cells3' HC11.out
  refine bodyPost_ret (v := .agg #[.int .i64 k, .int .i64 t, .slice p9 n9 cap9]) (by simp [results, Tryz.results70, go_sem, k0, k1, k2]) rfl (HP.out _ _ _ _ rfl ?_ ?_)
  · exact Fr2.after (gb_trans HG0.out (gb_refl _ _)) ((Fr2.ofBelow HB9.out).mono (S' := fun j => b ≤ j) (fun j hj => by omega) |>.trans (HF11.out.mono (fun j hj => by omega))) (fun j hj => by rw [HBW.out]; exact hj)
  · have h1 := HO9.out.keptF HF11.out (fun j e => by have := (OwnG.at HO9.out j e).1; omega)
    rw [HBW.out]
    exact ⟨⟨h1.1.1, h1.1.2.imp id fun ⟨g, cap, cur, e, hb, r⟩ => ⟨g, cap, cur, e, by omega, r⟩⟩, h1.2⟩

abbrev Kf := Nat → Option Addr × Nat

/-- A builder at b: its tokens, how many are used, its nodes (their row is vn). -/
structure Bld (w : World) (b : Nat) (pt : Option Addr) (ct : Nat) (l : List Tok) (u : Nat) (vn : Value) (N : List Nd) (K : Kf) : Prop where
  box : w.heap[b]? = some (.cells #[.slice pt l.length ct, .int .i64 (u : Int), vn] 139 (0, 0))
  cap : l.length ≤ ct
  toks : TAt w pt l
  tlow : l ≠ [] → ∀ a, pt = some a → a.block < b
  own : OwnG 3 110 w (b + 1) vn (ndsV K N)
  kids : KidsAt w N K
  khi : ∀ (i : Nat) (x : Nd), N[i]? = some x → x.kids ≠ [] → ∀ a, (K i).1 = some a → b < a.block ∧ a.block < w.heap.size ∧ vn.ownBlock ≠ some a.block

/-- What a builder's calls turn. -/
def Turn (b : Nat) (vn : Value) : Nat → Prop := fun k => k = b ∨ vn.ownBlock = some k

def BldV (w : World) (b : Nat) (l : List Tok) (u : Nat) (N : List Nd) (vn : Value) : Prop := ∃ pt ct K, Bld w b pt ct l u vn N K

theorem kf_snoc (K : Kf) (n : Nat) (p : Option Addr) (c : Nat) : ∃ K' : Kf, K' n = (p, c) ∧ ∀ i, i ≠ n → K' i = K i :=
  ⟨fun i => if i = n then (p, c) else K i, by simp, fun i hi => by simp [hi]⟩
theorem ndsV_snoc {K K' : Kf} {N : List Nd} {x : Nd} {p : Option Addr} {c : Nat} (h1 : K' N.length = (p, c)) (h2 : ∀ i, i ≠ N.length → K' i = K i) : ndsV K' (N ++ [x]) = ndsV K N ++ [[.int .i64 x.kind, .int .i64 x.tok, .slice p x.kids.length c]] := by
  unfold ndsV
  rw [List.mapIdx_append]
  congr 1
  · refine List.ext_getElem? fun i => ?_
    rw [List.getElem?_mapIdx, List.getElem?_mapIdx]
    by_cases hi : i < N.length
    · rw [List.getElem?_eq_getElem hi]; simp [ndV, h2 i (by omega)]
    · rw [List.getElem?_eq_none (by omega)]; rfl
  · simp [ndV, h1]
theorem nds_len (K : Kf) (N : List Nd) : (ndsV K N).length = N.length := List.length_mapIdx

theorem Bld.kept {w w' : World} {b : Nat} {pt : Option Addr} {ct : Nat} {l : List Tok} {u : Nat} {vn : Value} {N : List Nd} {K : Kf} (h : Bld w b pt ct l u vn N K) (hg : w.grownBy w' none) : Bld w' b pt ct l u vn N K :=
  ⟨bx hg h.box, h.cap, h.toks.kept hg, h.tlow, h.own.kept hg, fun i x hx => (h.kids i x hx).kept hg, fun i x hx hn a ha => by
    obtain ⟨h1, h2, h3⟩ := h.khi i x hx hn a ha
    exact ⟨h1, Nat.lt_of_lt_of_le h2 hg.size, h3⟩⟩
theorem BldV.kept {w w' : World} {b : Nat} {l : List Tok} {u : Nat} {N : List Nd} {vn : Value} (h : BldV w b l u N vn) (hg : w.grownBy w' none) : BldV w' b l u N vn := by
  obtain ⟨pt, ct, K, h⟩ := h
  exact ⟨pt, ct, K, h.kept hg⟩

/-- Beside turns of other blocks. -/
theorem Bld.keptF {S : Nat → Prop} {w w' : World} {b : Nat} {pt : Option Addr} {ct : Nat} {l : List Tok} {u : Nat} {vn : Value} {N : List Nd} {K : Kf} (h : Bld w b pt ct l u vn N K) (hf : Fr2 S w w') (hS : ∀ k, k ≤ b → ¬ S k) (hv : ∀ k, vn.ownBlock = some k → ¬ S k)
    (hk : ∀ (i : Nat) (x : Nd), N[i]? = some x → x.kids ≠ [] → ∀ a, (K i).1 = some a → ¬ S a.block) : Bld w' b pt ct l u vn N K := by
  refine ⟨hf.keep h.box (hS b (Nat.le_refl _)), h.cap, ?_, h.tlow, h.own.keptF hf hv, fun i x hx => ?_, fun i x hx hn a ha => ?_⟩
  · rcases h.toks with h0 | ⟨g, off, rfl, hl, hc⟩
    · exact .inl h0
    · by_cases h0 : l = []
      · exact .inl h0
      · have h1 := h.tlow h0 _ rfl
        simp at h1
        have hb := hf.block g hl (hS g (by omega))
        refine .inr ⟨g, off, rfl, Nat.lt_of_lt_of_le hl hf.size, fun j q hj => ?_⟩
        obtain ⟨c0, c1, c2, c3⟩ := hc j q hj
        exact ⟨(World.cell?_of_block (a := ⟨g, _, none⟩) hb).trans c0, (World.cell?_of_block (a := ⟨g, _, none⟩) hb).trans c1, (World.cell?_of_block (a := ⟨g, _, none⟩) hb).trans c2, (World.cell?_of_block (a := ⟨g, _, none⟩) hb).trans c3⟩
  · rcases h.kids i x hx with h0 | ⟨g, off, e, hl, hc⟩
    · exact .inl h0
    · by_cases h0 : x.kids = []
      · exact .inl (by rw [h0]; rfl)
      · have hb := hf.block g hl (hk i x hx h0 _ e)
        exact .inr ⟨g, off, e, Nat.lt_of_lt_of_le hl hf.size, fun j v hj => (World.cell?_of_block (a := ⟨g, _, none⟩) hb).trans (hc j v hj)⟩
  · obtain ⟨h1, h2, h3⟩ := h.khi i x hx hn a ha
    exact ⟨h1, Nat.lt_of_lt_of_le h2 hf.size, h3⟩

theorem VAt.keptF {S : Nat → Prop} {w w' : World} {p : Option Addr} {vs : List Value} (h : VAt w p vs) (hf : Fr2 S w w') (hS : vs ≠ [] → ∀ a, p = some a → ¬ S a.block) : VAt w' p vs := by
  rcases h with h0 | ⟨g, off, e, hl, hc⟩
  · exact .inl h0
  · by_cases h0 : vs = []
    · exact .inl h0
    · have hb := hf.block g hl (hS h0 _ e)
      exact .inr ⟨g, off, e, Nat.lt_of_lt_of_le hl hf.size, fun j v hj => (World.cell?_of_block (a := ⟨g, _, none⟩) hb).trans (hc j v hj)⟩
theorem TAt.keptF {S : Nat → Prop} {w w' : World} {p : Option Addr} {l : List Tok} (h : TAt w p l) (hf : Fr2 S w w') (hS : l ≠ [] → ∀ a, p = some a → ¬ S a.block) : TAt w' p l := by
  rcases h with h0 | ⟨g, off, e, hl, hc⟩
  · exact .inl h0
  · by_cases h0 : l = []
    · exact .inl h0
    · have hb := hf.block g hl (hS h0 _ e)
      refine .inr ⟨g, off, e, Nat.lt_of_lt_of_le hl hf.size, fun j q hj => ?_⟩
      obtain ⟨c0, c1, c2, c3⟩ := hc j q hj
      exact ⟨(World.cell?_of_block (a := ⟨g, _, none⟩) hb).trans c0, (World.cell?_of_block (a := ⟨g, _, none⟩) hb).trans c1, (World.cell?_of_block (a := ⟨g, _, none⟩) hb).trans c2, (World.cell?_of_block (a := ⟨g, _, none⟩) hb).trans c3⟩
theorem VAt.lt {w : World} {p : Option Addr} {vs : List Value} (h : VAt w p vs) (h0 : vs ≠ []) : ∀ a, p = some a → a.block < w.heap.size := fun a ha => by
  obtain ⟨g, off, e, hl, -⟩ := h.resolve_left h0
  rw [ha] at e; cases e; exact hl
theorem intsV_ne {l : List Int} (h : intsV l ≠ []) : l ≠ [] := fun e => h (by rw [e]; rfl)
theorem ne_intsV {l : List Int} (h : l ≠ []) : intsV l ≠ [] := fun e => h (List.length_eq_zero_iff.1 (by have := congrArg List.length e; rwa [intsV_len] at this))

theorem Bld.turn {w : World} {b : Nat} {pt : Option Addr} {ct : Nat} {l : List Tok} {u : Nat} {vn : Value} {N : List Nd} {K : Kf} (h : Bld w b pt ct l u vn N K) : ∀ k, vn.ownBlock = some k → b < k ∧ k < w.heap.size := fun k e => by
  obtain ⟨h1, h2⟩ := OwnG.at h.own k e; omega


def NewPost (l : List Tok) (w : World) (e : Ending) (w' : World) : Prop :=
  ∃ b, e = .returned (.pointer (some ⟨b, 0, none⟩)) ∧ w.heap.size ≤ b ∧ BldV w' b l 0 [] (.slice none 0 0) ∧ w.grownBy w' none

set_option maxRecDepth 100000 in
set_option maxHeartbeats 4000000 in
theorem NewBuilder_c (l : List Tok) (q : Option Addr) (c : Nat) (w : World) (hl : l.length ≤ 100000) (hs : Short l) (h : TAt w q l) :
    Calls Tryz.prog 39 #[.slice q l.length c] w (NewPost l w) := by
  have HT := Lib.hid (ownTokens_c l q c w hl hs h)
  have HP : Hid (∀ w' p c, OwnG 4 98 w' w.heap.size (.slice p l.length c) (rowT l) → w.grownBy w' none → NewPost l w (.returned (.pointer (some ⟨w'.heap.size, 0, none⟩))) (w'.alloc (.cells #[.slice p l.length c, .int .i64 0, .slice none 0 0] 139))) := Lib.hid (fun w' p c ho hg => by
    have hga := World.grownBy_alloc w' (.cells #[.slice p l.length c, .int .i64 0, .slice none 0 0] 139) none
    obtain ⟨p', c', e, ht, h1, -, -⟩ := ho.is
    rw [rowT_len] at e h1
    injection e with e1 e2 e3
    subst e1; subst e3
    refine ⟨w'.heap.size, rfl, hg.size, ⟨p, c, fun _ => (none, 0), heap_alloc_new w' _, h1, (t_of_g ht).kept hga, fun h0 a ha => ?_, OwnG.nil _ _ _ _, fun i x hx => by simp at hx, fun i x hx => by simp at hx⟩, gb_trans hg hga⟩
    obtain ⟨g, off, e, hlt, -⟩ := (t_of_g ht).resolve_left h0
    rw [ha] at e; cases e; exact hlt)
  have HLN : Hid (∀ v w', OwnG 4 98 w' w.heap.size v (rowT l) → ∃ p c, v = .slice p l.length c) := Lib.hid (fun v w' ho => by
    obtain ⟨p', c', e, -⟩ := ho.is
    rw [rowT_len] at e
    exact ⟨p', c', e⟩)
  obtain ⟨m, hm⟩ : ∃ m, l.length = m := ⟨_, rfl⟩
  rw [hm] at HT HP HLN ⊢
  clear hm h hs hl
  go_enter Tryz.func39, Tryz.ntmps39
  go_wp2_with fail
  refine HT.out.mono ?_
  rintro e w1 ⟨v, rfl, ho, hg⟩
  obtain ⟨p, c', rfl⟩ := HLN.out _ _ ho
  have HO := Lib.hid ho; have HG := Lib.hid hg
  clear ho hg
  go_wp2_with fail
  go_ret
  exact HP.out _ _ _ HO.out HG.out

theorem Bld.setUsed {w : World} {b : Nat} {pt : Option Addr} {ct : Nat} {l : List Tok} {u : Nat} {vn : Value} {N : List Nd} {K : Kf} (h : Bld w b pt ct l u vn N K) (u' : Nat) : Bld (w.setCell ⟨b, 1, none⟩ (.int .i64 (u' : Int))) b pt ct l u' vn N K := by
  have hf := Fr2.setCell (S := fun k => k = b) (Fr2.refl _ w) (g := b) (j := 1) rfl (.int .i64 (u' : Int))
  refine ⟨set_cells (i := 1) (u := .int .i64 (u' : Int)) h.box, h.cap, h.toks.keptF hf (fun h0 a ha e => by have := h.tlow h0 a ha; omega), h.tlow, h.own.keptF hf (fun k e e2 => by have := (h.turn k e).1; omega), fun i x hx => (h.kids i x hx).keptF hf fun h0 a ha e => ?_, fun i x hx hn a ha => ?_⟩
  · have := (h.khi i x hx (intsV_ne h0) a ha).1; omega
  · obtain ⟨h1, h2, h3⟩ := h.khi i x hx hn a ha
    exact ⟨h1, Nat.lt_of_lt_of_le h2 hf.size, h3⟩

set_option maxRecDepth 100000 in
set_option maxHeartbeats 8000000 in
theorem Node_none (b : Nat) (l : List Tok) (u : Nat) (N : List Nd) (vn : Value) (kind : Int) (kids : List Int) (q : Option Addr) (c : Nat) (w : World) (hN : N.length ≤ 100000) (hk : kids.length ≤ 100000) (h : BldV w b l u N vn) (hq : VAt w q (intsV kids)) (hno : okB N.length kids = false) :
    Calls Tryz.prog 42 #[.pointer (some ⟨b, 0, none⟩), .int .i64 kind, .slice q kids.length c] w (ValPost (.int .i64 (-1)) w) := by
  obtain ⟨pt, ct, K, h⟩ := h
  have hbox := h.box
  obtain ⟨pv, cv, e1, -, -, -⟩ := h.own.is
  rw [nds_len] at e1
  subst e1
  have HE := Lib.hid (eachBelow_c N.length kids q c w (by omega) (by omega) hq)
  rw [hno] at HE
  obtain ⟨m, hm⟩ : ∃ m, l.length = m := ⟨_, rfl⟩
  obtain ⟨M, hM⟩ : ∃ M, N.length = M := ⟨_, rfl⟩
  obtain ⟨kl, hkl⟩ : ∃ kl, kids.length = kl := ⟨_, rfl⟩
  rw [hm, hM] at hbox
  rw [hM, hkl] at HE
  rw [hkl]
  obtain ⟨d0, d1, d2, d3⟩ := cells3' hbox
  clear hbox hm h hM hkl hno hq hk hN
  go_enter Tryz.func42, Tryz.ntmps42
  go_wp2_with fail
  refine HE.out.mono ?_
  rintro e w1 ⟨rfl, hg⟩
  have HG := Lib.hid hg
  clear hg
  go_wp2_with fail
  go_ret
  exact ⟨rfl, HG.out⟩

end Go.Proofs.YtddccnpohpaofaaGreatDoor
