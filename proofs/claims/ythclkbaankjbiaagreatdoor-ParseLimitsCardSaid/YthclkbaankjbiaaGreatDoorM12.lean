/- A builder in memory; add. -/
import Derived.Test.YthclkbaankjbiaaGreatDoorM11
namespace Go.Proofs.YthclkbaankjbiaaGreatDoor
open Go.RowKit

abbrev Kf := Nat → Option Addr × Nat

/-- A builder at b: its tokens, how many are used, its nodes (their row is vn). -/
structure Bld (w : World) (b : Nat) (pt : Option Addr) (ct : Nat) (l : List Tok) (u : Nat) (vn : Value) (N : List Nd) (K : Kf) : Prop where
  box : w.heap[b]? = some (.cells #[.slice pt l.length ct, .int .i64 (u : Int), vn] 102 (0, 0))
  cap : l.length ≤ ct
  toks : TAt w pt l
  tlow : l ≠ [] → ∀ a, pt = some a → a.block < b
  own : OwnG 3 39 w (b + 1) vn (ndsV K N)
  kids : KidsAt w N K
  khi : ∀ (i : Nat) (x : Nd), N[i]? = some x → x.kids ≠ [] → ∀ a, (K i).1 = some a → b < a.block ∧ a.block < w.heap.size ∧ vn.ownBlock ≠ some a.block

/-- What a builder's calls turn. -/
def Turn (b : Nat) (vn : Value) : Nat → Prop := fun k => k = b ∨ vn.ownBlock = some k

def BldV (w : World) (b : Nat) (l : List Tok) (u : Nat) (N : List Nd) (vn : Value) : Prop := ∃ pt ct K, Bld w b pt ct l u vn N K

theorem kf_snoc (K : Kf) (n : Nat) (p : Option Addr) (c : Nat) : ∃ K' : Kf, K' n = (p, c) ∧ ∀ i, i ≠ n → K' i = K i :=
  ⟨fun i => if i = n then (p, c) else K i, by simp, fun i hi => by simp [hi]⟩
theorem ndsV_snoc {K K' : Kf} {N : List Nd} {x : Nd} {p : Option Addr} {c : Nat} (h1 : K' N.length = (p, c)) (h2 : ∀ i, i ≠ N.length → K' i = K i) : ndsV K' (N ++ [x]) = ndsV K N ++ [[.int .i64 x.kind, .int .i64 x.tok, .slice p x.kids.length c]] := by
  unfold ndsV
  rw [List.mapIdx_append]
  congr 1
  · refine List.ext_getElem? fun i => ?_
    rw [List.getElem?_mapIdx, List.getElem?_mapIdx]
    by_cases hi : i < N.length
    · rw [List.getElem?_eq_getElem hi]; simp [ndV, h2 i (by omega)]
    · rw [List.getElem?_eq_none (by omega)]; rfl
  · simp [ndV, h1]
theorem ndV_one (K : Kf) (i : Nat) (x : Nd) : ∀ u ∈ ndV K i x, u.oneCell' = true := fun u hu => by unfold ndV at hu; simp at hu; rcases hu with rfl | rfl | rfl <;> rfl
theorem nds_len (K : Kf) (N : List Nd) : (ndsV K N).length = N.length := List.length_mapIdx

theorem Bld.kept {w w' : World} {b : Nat} {pt : Option Addr} {ct : Nat} {l : List Tok} {u : Nat} {vn : Value} {N : List Nd} {K : Kf} (h : Bld w b pt ct l u vn N K) (hg : w.grownBy w' none) : Bld w' b pt ct l u vn N K :=
  ⟨bx hg h.box, h.cap, h.toks.kept hg, h.tlow, h.own.kept hg, fun i x hx => (h.kids i x hx).kept hg, fun i x hx hn a ha => by
    obtain ⟨h1, h2, h3⟩ := h.khi i x hx hn a ha
    exact ⟨h1, Nat.lt_of_lt_of_le h2 hg.size, h3⟩⟩
theorem BldV.kept {w w' : World} {b : Nat} {l : List Tok} {u : Nat} {N : List Nd} {vn : Value} (h : BldV w b l u N vn) (hg : w.grownBy w' none) : BldV w' b l u N vn := by
  obtain ⟨pt, ct, K, h⟩ := h
  exact ⟨pt, ct, K, h.kept hg⟩

/-- Beside turns of other blocks. -/
theorem Bld.keptF {S : Nat → Prop} {w w' : World} {b : Nat} {pt : Option Addr} {ct : Nat} {l : List Tok} {u : Nat} {vn : Value} {N : List Nd} {K : Kf} (h : Bld w b pt ct l u vn N K) (hf : Fr2 S w w') (hS : ∀ k, k ≤ b → ¬ S k) (hv : ∀ k, vn.ownBlock = some k → ¬ S k)
    (hk : ∀ (i : Nat) (x : Nd), N[i]? = some x → x.kids ≠ [] → ∀ a, (K i).1 = some a → ¬ S a.block) : Bld w' b pt ct l u vn N K := by
  refine ⟨hf.keep h.box (hS b (Nat.le_refl _)), h.cap, ?_, h.tlow, h.own.keptF hf hv, fun i x hx => ?_, fun i x hx hn a ha => ?_⟩
  · rcases h.toks with h0 | ⟨g, off, rfl, hl, hc⟩
    · exact .inl h0
    · by_cases h0 : l = []
      · exact .inl h0
      · have h1 := h.tlow h0 _ rfl
        simp at h1
        have hb := hf.block g hl (hS g (by omega))
        refine .inr ⟨g, off, rfl, Nat.lt_of_lt_of_le hl hf.size, fun j q hj => ?_⟩
        obtain ⟨c0, c1, c2, c3⟩ := hc j q hj
        exact ⟨(World.cell?_of_block (a := ⟨g, _, none⟩) hb).trans c0, (World.cell?_of_block (a := ⟨g, _, none⟩) hb).trans c1, (World.cell?_of_block (a := ⟨g, _, none⟩) hb).trans c2, (World.cell?_of_block (a := ⟨g, _, none⟩) hb).trans c3⟩
  · rcases h.kids i x hx with h0 | ⟨g, off, e, hl, hc⟩
    · exact .inl h0
    · by_cases h0 : x.kids = []
      · exact .inl (by rw [h0]; rfl)
      · have hb := hf.block g hl (hk i x hx h0 _ e)
        exact .inr ⟨g, off, e, Nat.lt_of_lt_of_le hl hf.size, fun j v hj => (World.cell?_of_block (a := ⟨g, _, none⟩) hb).trans (hc j v hj)⟩
  · obtain ⟨h1, h2, h3⟩ := h.khi i x hx hn a ha
    exact ⟨h1, Nat.lt_of_lt_of_le h2 hf.size, h3⟩

theorem VAt.keptF {S : Nat → Prop} {w w' : World} {p : Option Addr} {vs : List Value} (h : VAt w p vs) (hf : Fr2 S w w') (hS : vs ≠ [] → ∀ a, p = some a → ¬ S a.block) : VAt w' p vs := by
  rcases h with h0 | ⟨g, off, e, hl, hc⟩
  · exact .inl h0
  · by_cases h0 : vs = []
    · exact .inl h0
    · have hb := hf.block g hl (hS h0 _ e)
      exact .inr ⟨g, off, e, Nat.lt_of_lt_of_le hl hf.size, fun j v hj => (World.cell?_of_block (a := ⟨g, _, none⟩) hb).trans (hc j v hj)⟩
theorem TAt.keptF {S : Nat → Prop} {w w' : World} {p : Option Addr} {l : List Tok} (h : TAt w p l) (hf : Fr2 S w w') (hS : l ≠ [] → ∀ a, p = some a → ¬ S a.block) : TAt w' p l := by
  rcases h with h0 | ⟨g, off, e, hl, hc⟩
  · exact .inl h0
  · by_cases h0 : l = []
    · exact .inl h0
    · have hb := hf.block g hl (hS h0 _ e)
      refine .inr ⟨g, off, e, Nat.lt_of_lt_of_le hl hf.size, fun j q hj => ?_⟩
      obtain ⟨c0, c1, c2, c3⟩ := hc j q hj
      exact ⟨(World.cell?_of_block (a := ⟨g, _, none⟩) hb).trans c0, (World.cell?_of_block (a := ⟨g, _, none⟩) hb).trans c1, (World.cell?_of_block (a := ⟨g, _, none⟩) hb).trans c2, (World.cell?_of_block (a := ⟨g, _, none⟩) hb).trans c3⟩
theorem VAt.lt {w : World} {p : Option Addr} {vs : List Value} (h : VAt w p vs) (h0 : vs ≠ []) : ∀ a, p = some a → a.block < w.heap.size := fun a ha => by
  obtain ⟨g, off, e, hl, -⟩ := h.resolve_left h0
  rw [ha] at e; cases e; exact hl
theorem intsV_ne {l : List Int} (h : intsV l ≠ []) : l ≠ [] := fun e => h (by rw [e]; rfl)
theorem ne_intsV {l : List Int} (h : l ≠ []) : intsV l ≠ [] := fun e => h (List.length_eq_zero_iff.1 (by have := congrArg List.length e; rwa [intsV_len] at this))

theorem Bld.turn {w : World} {b : Nat} {pt : Option Addr} {ct : Nat} {l : List Tok} {u : Nat} {vn : Value} {N : List Nd} {K : Kf} (h : Bld w b pt ct l u vn N K) : ∀ k, vn.ownBlock = some k → b < k ∧ k < w.heap.size := fun k e => by
  obtain ⟨h1, h2⟩ := OwnG.at h.own k e; omega

/-- A node more. -/
theorem Bld.add {w w5 : World} {b : Nat} {pt : Option Addr} {ct : Nat} {l : List Tok} {u u' : Nat} {vn : Value} {N : List Nd} {K : Kf} (h : Bld w b pt ct l u vn N K) (hf : Fr2 (Turn b vn) w w5) {g9 n9 cap9 : Nat} (hbox : w5.heap[b]? = some (.cells #[.slice pt l.length ct, .int .i64 (u' : Int), .slice (some ⟨g9, 0, none⟩) n9 cap9] 102 (0, 0)))
    {x : Nd} {p : Option Addr} {c : Nat} (hown : OwnG 3 39 w5 (b + 1) (.slice (some ⟨g9, 0, none⟩) n9 cap9) (ndsV K N ++ [[.int .i64 x.kind, .int .i64 x.tok, .slice p x.kids.length c]])) (hk : VAt w p (intsV x.kids)) (hkb : x.kids ≠ [] → ∀ a, p = some a → b < a.block ∧ vn.ownBlock ≠ some a.block)
    (hl9 : vn.ownBlock = some g9 ∨ w.heap.size ≤ g9) : BldV w5 b l u' (N ++ [x]) (.slice (some ⟨g9, 0, none⟩) n9 cap9) := by
  obtain ⟨K', hK1, hK2⟩ := kf_snoc K N.length p c
  have hkn : ∀ (i : Nat) (y : Nd), (N ++ [x])[i]? = some y → (i < N.length ∧ N[i]? = some y ∧ K' i = K i) ∨ (i = N.length ∧ y = x ∧ K' i = (p, c)) := fun i y hy => by
    by_cases hi : i < N.length
    · rw [List.getElem?_append_left hi] at hy; exact .inl ⟨hi, hy, hK2 i (by omega)⟩
    · have h1 := (List.getElem?_eq_some_iff.1 hy).1
      rw [List.length_append, List.length_singleton] at h1
      obtain rfl : i = N.length := by omega
      rw [List.getElem?_append_right (Nat.le_refl _)] at hy
      simp at hy
      exact .inr ⟨rfl, hy.symm, hK1⟩
  refine ⟨pt, ct, K', hbox, h.cap, h.toks.keptF hf (fun h0 a ha => ?_), h.tlow, by rw [ndsV_snoc hK1 hK2]; exact hown, fun i y hy => ?_, fun i y hy hn a ha => ?_⟩
  · have h1 := h.tlow h0 a ha
    rintro (e | e)
    · omega
    · have := (h.turn _ e).1; omega
  · rcases hkn i y hy with ⟨-, hy, e⟩ | ⟨-, rfl, e⟩
    · rw [e]
      refine (h.kids i y hy).keptF hf fun h0 a ha => ?_
      obtain ⟨h1, h2, h3⟩ := h.khi i y hy (intsV_ne h0) a ha
      rintro (e | e)
      · omega
      · exact h3 e
    · rw [e]
      refine hk.keptF hf fun h0 a ha => ?_
      obtain ⟨h1, h3⟩ := hkb (intsV_ne h0) a ha
      rintro (e | e)
      · omega
      · exact h3 e
  · have hx9 : ∀ k, (Value.slice (some ⟨g9, 0, none⟩) n9 cap9).ownBlock = some k → g9 = k := fun k e => by simpa [Value.ownBlock] using e
    rcases hkn i y hy with ⟨-, hy, e⟩ | ⟨-, rfl, e⟩
    · rw [e] at ha
      obtain ⟨h1, h2, h3⟩ := h.khi i y hy hn a ha
      refine ⟨h1, Nat.lt_of_lt_of_le h2 hf.size, fun e9 => ?_⟩
      have := hx9 _ e9
      subst this
      rcases hl9 with h | h
      · exact h3 h
      · omega
    · rw [e] at ha
      obtain ⟨h1, h3⟩ := hkb hn a ha
      have h2 := hk.lt (ne_intsV hn) a ha
      refine ⟨h1, Nat.lt_of_lt_of_le h2 hf.size, fun e9 => ?_⟩
      have := hx9 _ e9
      subst this
      rcases hl9 with h | h
      · exact h3 h
      · omega

/-- What a call that makes a node answers. -/
def AddPost (w : World) (b : Nat) (l : List Tok) (u : Nat) (N : List Nd) (x : Nd) (vn : Value) (e : Ending) (w' : World) : Prop :=
  e = .returned (.int .i64 (N.length : Int)) ∧ ∃ vn', BldV w' b l u (N ++ [x]) vn' ∧ Fr2 (Turn b vn) w w' ∧ ∀ k, vn'.ownBlock = some k → vn.ownBlock = some k ∨ w.heap.size ≤ k

set_option maxRecDepth 100000 in
set_option maxHeartbeats 8000000 in
theorem add_c (b : Nat) (l : List Tok) (u : Nat) (N : List Nd) (vn : Value) (x : Nd) (p : Option Addr) (c : Nat) (w : World) (hN : N.length ≤ 100000) (h : BldV w b l u N vn) (hk : VAt w p (intsV x.kids)) (hkb : x.kids ≠ [] → ∀ a, p = some a → b < a.block ∧ vn.ownBlock ≠ some a.block) :
    Calls Tryz.prog 74 #[.pointer (some ⟨b, 0, none⟩), .agg #[.int .i64 x.kind, .int .i64 x.tok, .slice p x.kids.length c]] w (AddPost w b l u N x vn) := by
  obtain ⟨pt, ct, K, h⟩ := h
  have H := Lib.hid h; have HK := Lib.hid hk; have HKB := Lib.hid hkb
  obtain ⟨pv, cv, e1, -, hcv, -⟩ := h.own.is
  rw [nds_len] at e1 hcv
  subst e1
  obtain ⟨B, hB⟩ : ∃ B, w.heap.size = B := ⟨_, rfl⟩
  have HBW := Lib.hid hB
  have hbB : b < B := by rw [← hB]; exact hlt' h.box
  have HOWN := Lib.hid h.own
  have HLE : Hid ((ndsV K N).length ≤ 1000000) := Lib.hid (by rw [nds_len]; omega)
  have HNL : Hid ((ndsV K N).length = N.length) := Lib.hid (nds_len K N)
  obtain ⟨m, hm⟩ : ∃ m, l.length = m := ⟨_, rfl⟩
  obtain ⟨M, hM⟩ : ∃ M, N.length = M := ⟨_, rfl⟩
  have HML := Lib.hid hM
  have HLL := Lib.hid hm
  obtain ⟨kl, hkl⟩ : ∃ kl, x.kids.length = kl := ⟨_, rfl⟩
  have HKL := Lib.hid hkl
  rw [hM] at HOWN
  obtain ⟨xk, hxk⟩ : ∃ xk, x.kind = xk := ⟨_, rfl⟩
  obtain ⟨xt, hxt⟩ : ∃ xt, x.tok = xt := ⟨_, rfl⟩
  have HXK := Lib.hid hxk; have HXT := Lib.hid hxt
  have hbox := h.box
  rw [hm, hM] at hbox
  rw [hxk, hxt, hkl]
  have hA := heap_alloc_new w (.cells #[.int .i64 xk, .int .i64 xt, .slice p kl c] 39)
  have hgA := World.grownBy_alloc w (.cells #[.int .i64 xk, .int .i64 xt, .slice p kl c] 39) none
  have hsA : (w.alloc (.cells #[.int .i64 xk, .int .i64 xt, .slice p kl c] 39)).heap.size = B + 1 := by simp [hB]
  obtain ⟨d0, d1, d2, d3⟩ := cells3' (bx hgA hbox)
  have HBX := Lib.hid hbox
  rw [hB] at hA
  obtain ⟨a0, a1, a2, a3⟩ := cells3' hA
  clear hbox hm hM hkl hxk hxt h hk hkb hcv
  go_enter Tryz.func74, Tryz.ntmps74
  go_wp2_with fail
  try rw [hB]
  generalize (w.alloc (.cells #[.int .i64 xk, .int .i64 xt, .slice p kl c] 39)) = W at *
  have HOW := Lib.hid (OwnG.kept HOWN.out hgA)
  have HGA := Lib.hid hgA
  have hnew := heap_alloc_new W (.cells #[.int .i64 xk, .int .i64 xt, .slice p kl c] 39)
  rw [hsA] at hnew
  have HNEW := Lib.hid hnew
  have HBX2 := Lib.hid (bx (World.grownBy_alloc W (.cells #[.int .i64 xk, .int .i64 xt, .slice p kl c] 39) none) (bx hgA HBX.out))
  have hoa : ∀ k, (Value.slice pv M cv).ownBlock = some k → b + 1 ≤ k ∧ k < B + 1 := fun k e => by
    obtain ⟨h1, h2⟩ := OwnG.at HOW.out k e
    omega
  have HOA := Lib.hid hoa
  clear hA hgA hB hnew hoa
  go_region_law (refine step_appGl (s := 3) (t := 24) (T := 39) (by decide) Tryz.underlying24 infoTN rfl (by omega) rfl _ _ rfl (b + 1) (ndsV K N) [.int .i64 xk, .int .i64 xt, .slice p kl c] rfl (fun u hu => by simp at hu; rcases hu with rfl | rfl | rfl <;> rfl) (.slice pv M cv) rfl (OwnG.kept HOW.out (by repeat (first | with_reducible exact gb_refl _ _ | with_reducible refine gb_drew ?_ | with_reducible refine gb_alloc ?_ _))) (B + 1) _ rfl (by exact HNEW.out) rfl HLE.out (by simp; omega) (B + 2) (by simp; omega) ?_; intro g9 cap9 w9 hO9 hg9 hl9; have hb9 := (hg9.block b (by simp; omega) (fun e => by have := (HOA.out b e.symm).1; omega)).trans HBX2.out; obtain ⟨f0, f1, f2, f3⟩ := cells3' hb9; have HB9 := Lib.hid hb9; have HO9 := Lib.hid hO9; have HG9 := Lib.hid hg9; have HL9 := Lib.hid hl9; clear hO9 hg9 hl9 hb9)
  all_goals
    rw [HNL.out, HML.out] at HO9 ⊢
    have HF9 : Hid (Fr2 (Turn b (.slice pv M cv)) w w9) := Lib.hid (Fr2.trans (b := (W.alloc (.cells #[.int .i64 xk, .int .i64 xt, .slice p kl c] 39)).drew) (Fr2.none (gb_trans HGA.out (gb_drew (gb_alloc (gb_refl _ _) _)))) (Fr2.of (S := Turn b (.slice pv M cv)) HG9.out (fun k e => Or.inr e)))
    have HF10 := Lib.hid (HF9.out.setCell (g := b) (j := 2) (.inl rfl) (.slice (some ⟨g9, 0, none⟩) (M + 1) cap9))
    have HB10 := Lib.hid (show (w9.setCell ⟨b, 2, none⟩ (.slice (some ⟨g9, 0, none⟩) (M + 1) cap9)).heap[b]? = some (.cells #[.slice pt m ct, .int .i64 (u : Int), .slice (some ⟨g9, 0, none⟩) (M + 1) cap9] 102 (0, 0)) from set_cells (i := 2) HB9.out)
    have HO10 := Lib.hid (OwnG.keptF HO9.out (Fr2.setCell (S := fun k => k = b) (Fr2.refl _ w9) (g := b) (j := 2) rfl (.slice (some ⟨g9, 0, none⟩) (M + 1) cap9)) (fun k e => by have := (OwnG.at HO9.out k e).1; omega))
    obtain ⟨W5, hW5⟩ : ∃ W5, (w9.setCell ⟨b, 2, none⟩ (.slice (some ⟨g9, 0, none⟩) (M + 1) cap9)) = W5 := ⟨_, rfl⟩
    rw [hW5] at HF10 HB10 HO10 ⊢
    clear HF9 HB9 HO9 hW5 d0 d1 d2 d3 f0 f1 f2 f3 a0 a1 a2 a3 HG9
    obtain ⟨f0, f1, f2, f3⟩ := cells3' HB10.out
    have hw1 : IntKind.i64.wrap (M : Int) = (M : Int) := IntWalk.i64_in _ (by have := HML.out; omega)
    have hw2 : IntKind.i64.wrap (((M + 1 : Nat) : Int) - 1) = (M : Int) := by rw [show (((M + 1 : Nat) : Int) - 1) = (M : Int) by omega]; exact hw1
    go_wp2_with fail
    go_ret
    refine ⟨by rw [HML.out]; rfl, _, Bld.add H.out (by rw [HML.out]; exact HF10.out) (by rw [HLL.out]; exact HB10.out) (by rw [HXK.out, HXT.out, HKL.out]; exact HO10.out) HK.out HKB.out (by rw [HML.out, HBW.out]; exact HL9.out.imp id (fun h => by omega)), by rw [HML.out]; exact HF10.out, fun k e => ?_⟩
    have h1 : g9 = k := by simpa [Value.ownBlock] using e
    subst h1
    rw [HML.out, HBW.out]
    exact HL9.out.imp id (fun h => by omega)
end Go.Proofs.YthclkbaankjbiaaGreatDoor
namespace Go.Proofs.YthclkbaankjbiaaGreatDoor
open Go.RowKit

def NewPost (l : List Tok) (w : World) (e : Ending) (w' : World) : Prop :=
  ∃ b, e = .returned (.pointer (some ⟨b, 0, none⟩)) ∧ w.heap.size ≤ b ∧ BldV w' b l 0 [] (.slice none 0 0) ∧ w.grownBy w' none

set_option maxRecDepth 100000 in
set_option maxHeartbeats 4000000 in
theorem NewBuilder_c (l : List Tok) (q : Option Addr) (c : Nat) (w : World) (hl : l.length ≤ 100000) (hs : Short l) (h : TAt w q l) :
    Calls Tryz.prog 34 #[.slice q l.length c] w (NewPost l w) := by
  have HT := Lib.hid (ownTokens_c l q c w hl hs h)
  have HP : Hid (∀ w' p c, OwnG 4 72 w' w.heap.size (.slice p l.length c) (rowT l) → w.grownBy w' none → NewPost l w (.returned (.pointer (some ⟨w'.heap.size, 0, none⟩))) (w'.alloc (.cells #[.slice p l.length c, .int .i64 0, .slice none 0 0] 102))) := Lib.hid (fun w' p c ho hg => by
    have hga := World.grownBy_alloc w' (.cells #[.slice p l.length c, .int .i64 0, .slice none 0 0] 102) none
    obtain ⟨p', c', e, ht, h1, -, -⟩ := ho.is
    rw [rowT_len] at e h1
    injection e with e1 e2 e3
    subst e1; subst e3
    refine ⟨w'.heap.size, rfl, hg.size, ⟨p, c, fun _ => (none, 0), heap_alloc_new w' _, h1, (t_of_g ht).kept hga, fun h0 a ha => ?_, OwnG.nil _ _ _ _, fun i x hx => by simp at hx, fun i x hx => by simp at hx⟩, gb_trans hg hga⟩
    obtain ⟨g, off, e, hlt, -⟩ := (t_of_g ht).resolve_left h0
    rw [ha] at e; cases e; exact hlt)
  have HLN : Hid (∀ v w', OwnG 4 72 w' w.heap.size v (rowT l) → ∃ p c, v = .slice p l.length c) := Lib.hid (fun v w' ho => by
    obtain ⟨p', c', e, -⟩ := ho.is
    rw [rowT_len] at e
    exact ⟨p', c', e⟩)
  obtain ⟨m, hm⟩ : ∃ m, l.length = m := ⟨_, rfl⟩
  rw [hm] at HT HP HLN ⊢
  clear hm h hs hl
  go_enter Tryz.func34, Tryz.ntmps34
  go_wp2_with fail
  refine HT.out.mono ?_
  rintro e w1 ⟨v, rfl, ho, hg⟩
  obtain ⟨p, c', rfl⟩ := HLN.out _ _ ho
  have HO := Lib.hid ho; have HG := Lib.hid hg
  clear ho hg
  go_wp2_with fail
  go_ret
  exact HP.out _ _ _ HO.out HG.out

set_option maxRecDepth 100000 in
set_option maxHeartbeats 4000000 in
theorem Leaf_none (b : Nat) (l : List Tok) (N : List Nd) (vn : Value) (w : World) (hl : l.length ≤ 100000) (h : BldV w b l l.length N vn) :
    Calls Tryz.prog 101 #[.pointer (some ⟨b, 0, none⟩)] w (ValPost (.int .i64 (-1)) w) := by
  obtain ⟨pt, ct, K, h⟩ := h
  have hbox := h.box
  obtain ⟨m, hm⟩ : ∃ m, l.length = m := ⟨_, rfl⟩
  rw [hm] at hbox
  obtain ⟨d0, d1, d2, d3⟩ := cells3' hbox
  clear hbox hm h
  go_enter Tryz.func101, Tryz.ntmps101
  go_wp2_with fail
  go_quiet (fail)
  go_wp2_with fail
  go_ret
  exact ⟨rfl, by repeat (first | with_reducible exact gb_refl _ _ | with_reducible refine gb_drewN ?_ _ | with_reducible refine gb_drew ?_)⟩

theorem AddPost.after {w w1 : World} {b : Nat} {l : List Tok} {u : Nat} {N : List Nd} {x : Nd} {vn : Value} {e : Ending} {w' : World} (h : AddPost w1 b l u N x vn e w') (hf : Fr2 (Turn b vn) w w1) : AddPost w b l u N x vn e w' := by
  obtain ⟨he, vn', h1, h2, h3⟩ := h
  exact ⟨he, vn', h1, hf.trans h2, fun k hk => (h3 k hk).imp id fun h => Nat.le_trans hf.size h⟩

theorem Bld.setUsed {w : World} {b : Nat} {pt : Option Addr} {ct : Nat} {l : List Tok} {u : Nat} {vn : Value} {N : List Nd} {K : Kf} (h : Bld w b pt ct l u vn N K) (u' : Nat) : Bld (w.setCell ⟨b, 1, none⟩ (.int .i64 (u' : Int))) b pt ct l u' vn N K := by
  have hf := Fr2.setCell (S := fun k => k = b) (Fr2.refl _ w) (g := b) (j := 1) rfl (.int .i64 (u' : Int))
  refine ⟨set_cells (i := 1) (u := .int .i64 (u' : Int)) h.box, h.cap, h.toks.keptF hf (fun h0 a ha e => by have := h.tlow h0 a ha; omega), h.tlow, h.own.keptF hf (fun k e e2 => by have := (h.turn k e).1; omega), fun i x hx => (h.kids i x hx).keptF hf fun h0 a ha e => ?_, fun i x hx hn a ha => ?_⟩
  · have := (h.khi i x hx (intsV_ne h0) a ha).1; omega
  · obtain ⟨h1, h2, h3⟩ := h.khi i x hx hn a ha
    exact ⟨h1, Nat.lt_of_lt_of_le h2 hf.size, h3⟩

theorem intsV_nil : intsV [] = [] := rfl

set_option maxRecDepth 100000 in
set_option maxHeartbeats 8000000 in
theorem Leaf_some (b : Nat) (l : List Tok) (u : Nat) (N : List Nd) (vn : Value) (w : World) (hl : l.length ≤ 100000) (hu : u < l.length) (hN : N.length ≤ 100000) (h : BldV w b l u N vn) :
    Calls Tryz.prog 101 #[.pointer (some ⟨b, 0, none⟩)] w (AddPost w b l (u + 1) N ⟨19, (u : Int), []⟩ vn) := by
  obtain ⟨pt, ct, K, h⟩ := h
  have hbox := h.box
  have HADD := Lib.hid (fun W (h : BldV W b l (u + 1) N vn) => add_c b l (u + 1) N vn ⟨19, (u : Int), []⟩ none 0 W hN h (.inl rfl) (fun h => absurd rfl h))
  obtain ⟨pv, cv, e1, -, -, -⟩ := h.own.is
  have HH := Lib.hid h
  obtain ⟨m, hm⟩ : ∃ m, l.length = m := ⟨_, rfl⟩
  rw [hm] at hbox hu hl
  have HP : Hid (∀ W e w', Fr2 (Turn b vn) w W → AddPost W b l (u + 1) N ⟨19, (u : Int), []⟩ vn e w' → AddPost w b l (u + 1) N ⟨19, (u : Int), []⟩ vn e w') := Lib.hid (fun _ _ _ h1 h2 => h2.after h1)
  have HF : Hid (∀ W, w.grownBy W none → Fr2 (Turn b vn) w (W.setCell ⟨b, 1, none⟩ (.int .i64 ((u + 1 : Nat) : Int))) ∧ BldV (W.setCell ⟨b, 1, none⟩ (.int .i64 ((u + 1 : Nat) : Int))) b l (u + 1) N vn) := Lib.hid (fun W hg => ⟨(Fr2.none hg).setCell (g := b) (j := 1) (.inl rfl) _, pt, ct, K, (HH.out.kept hg).setUsed (u + 1)⟩)
  obtain ⟨d0, d1, d2, d3⟩ := cells3' hbox
  have e1 : ((u : Int) == (m : Int)) = false := beq_eq_false_iff_ne.2 (by omega)
  have e2 : (u == m) = false := beq_eq_false_iff_ne.2 (by omega)
  have hw1 : IntKind.i64.wrap ((u : Int) + 1) = ((u + 1 : Nat) : Int) := by rw [IntWalk.i64_in _ (by omega)]; omega
  have hw2 : IntKind.i64.wrap (((u + 1 : Nat) : Int) - 1) = (u : Int) := by rw [IntWalk.i64_in _ (by omega)]; omega
  generalize AddPost w b l (u + 1) N ⟨19, (u : Int), []⟩ vn = Q at HP
  obtain ⟨u1, hu1⟩ : ∃ u1, u + 1 = u1 := ⟨_, rfl⟩
  rw [hu1] at hw1 hw2 HF HADD HP
  clear hbox hm h hu1
  go_enter Tryz.func101, Tryz.ntmps101
  go_wp2_with fail
  go_quiet (fail)
  go_wp2_with fail
  obtain ⟨hf1, hb1⟩ := HF.out (w.drewN nq) (gb_drewN (gb_refl _ _) _)
  refine (HADD.out _ hb1).mono ?_
  rintro e w' hp
  have HP1 := Lib.hid (HP.out _ _ _ hf1 hp)
  obtain rfl := hp.1
  clear hp hf1 hb1 HP HF HADD
  go_wp2_with fail
  exact HP1.out

set_option maxRecDepth 100000 in
set_option maxHeartbeats 8000000 in
theorem Node_none (b : Nat) (l : List Tok) (u : Nat) (N : List Nd) (vn : Value) (kind : Int) (kids : List Int) (q : Option Addr) (c : Nat) (w : World) (hN : N.length ≤ 100000) (hk : kids.length ≤ 100000) (h : BldV w b l u N vn) (hq : VAt w q (intsV kids)) (hno : okB N.length kids = false) :
    Calls Tryz.prog 40 #[.pointer (some ⟨b, 0, none⟩), .int .i64 kind, .slice q kids.length c] w (ValPost (.int .i64 (-1)) w) := by
  obtain ⟨pt, ct, K, h⟩ := h
  have hbox := h.box
  obtain ⟨pv, cv, e1, -, -, -⟩ := h.own.is
  rw [nds_len] at e1
  subst e1
  have HE := Lib.hid (eachBelow_c N.length kids q c w (by omega) (by omega) hq)
  rw [hno] at HE
  obtain ⟨m, hm⟩ : ∃ m, l.length = m := ⟨_, rfl⟩
  obtain ⟨M, hM⟩ : ∃ M, N.length = M := ⟨_, rfl⟩
  obtain ⟨kl, hkl⟩ : ∃ kl, kids.length = kl := ⟨_, rfl⟩
  rw [hm, hM] at hbox
  rw [hM, hkl] at HE
  rw [hkl]
  obtain ⟨d0, d1, d2, d3⟩ := cells3' hbox
  clear hbox hm h hM hkl hno hq hk hN
  go_enter Tryz.func40, Tryz.ntmps40
  go_wp2_with fail
  refine HE.out.mono ?_
  rintro e w1 ⟨rfl, hg⟩
  have HG := Lib.hid hg
  clear hg
  go_wp2_with fail
  go_ret
  exact ⟨rfl, HG.out⟩

set_option maxRecDepth 100000 in
set_option maxHeartbeats 8000000 in
theorem Node_some (b : Nat) (l : List Tok) (u : Nat) (N : List Nd) (vn : Value) (kind : Int) (kids : List Int) (q : Option Addr) (c : Nat) (w : World) (hN : N.length ≤ 100000) (hk : kids.length ≤ 100000) (h : BldV w b l u N vn) (hq : VAt w q (intsV kids)) (hok : okB N.length kids = true) :
    Calls Tryz.prog 40 #[.pointer (some ⟨b, 0, none⟩), .int .i64 kind, .slice q kids.length c] w (AddPost w b l u N ⟨kind, -1, kids⟩ vn) := by
  obtain ⟨pt, ct, K, h⟩ := h
  have hbox := h.box
  have HH := Lib.hid h
  have HADD := Lib.hid (fun W p' c' (h : BldV W b l u N vn) h1 h2 => add_c b l u N vn ⟨kind, -1, kids⟩ p' c' W hN h h1 h2)
  have HE := Lib.hid (eachBelow_c N.length kids q c w (by omega) (by omega) hq)
  rw [hok] at HE
  have HON := Lib.hid (fun W h => ownNode_c kind (-1) kids q c W hk h)
  have HQ := Lib.hid hq
  have HTN := Lib.hid h.turn
  have hbl := hlt' h.box
  have HBL := Lib.hid hbl
  have HP : Hid (∀ W e w', Fr2 (Turn b vn) w W → AddPost W b l u N ⟨kind, -1, kids⟩ vn e w' → AddPost w b l u N ⟨kind, -1, kids⟩ vn e w') := Lib.hid (fun _ _ _ h1 h2 => h2.after h1)
  obtain ⟨pv, cv, e1, -, -, -⟩ := h.own.is
  rw [nds_len] at e1
  obtain ⟨m, hm⟩ : ∃ m, l.length = m := ⟨_, rfl⟩
  obtain ⟨M, hM⟩ : ∃ M, N.length = M := ⟨_, rfl⟩
  obtain ⟨kl, hkl⟩ : ∃ kl, kids.length = kl := ⟨_, rfl⟩
  have HM := Lib.hid hM; have HKL := Lib.hid hkl
  rw [hM] at e1
  rw [hm, e1] at hbox
  rw [hM, hkl] at HE
  rw [hkl] at HON
  rw [hkl]
  generalize AddPost w b l u N ⟨kind, -1, kids⟩ vn = Q at HP
  obtain ⟨d0, d1, d2, d3⟩ := cells3' hbox
  clear hbox hm h hM hkl hok hq hk hN e1 hbl
  go_enter Tryz.func40, Tryz.ntmps40
  go_wp2_with fail
  refine HE.out.mono ?_
  rintro e w1 ⟨rfl, hg⟩
  have HG := Lib.hid hg
  clear hg HE
  go_wp2_with fail
  refine (HON.out _ (HQ.out.kept HG.out)).mono ?_
  rintro e w2 ⟨hg2, p2, c2, rfl, hv2, -, hb2⟩
  have HG2 := Lib.hid (gb_trans HG.out hg2)
  have HV2 := Lib.hid hv2
  have HB2 := Lib.hid hb2
  have hgs := HG.out.size
  have HGS := Lib.hid hgs
  rw [HKL.out]
  clear hg2 hv2 hb2 hgs HON
  go_wp2_with fail
  have HA := Lib.hid (HADD.out w2 p2 c2 ⟨pt, ct, K, HH.out.kept HG2.out⟩ HV2.out (fun hne a ha => by
    obtain ⟨h1, -⟩ := HB2.out hne a ha
    have h2 := HGS.out
    have h3 := HBL.out
    refine ⟨by omega, fun e => ?_⟩
    have := (HTN.out _ e).2
    omega))
  rw [HKL.out] at HA
  refine HA.out.mono ?_
  rintro e w' hp
  have HP1 := Lib.hid (HP.out _ _ _ (Fr2.none HG2.out) hp)
  obtain rfl := hp.1
  clear hp HP HADD HA
  go_wp2_with fail
  exact HP1.out
end Go.Proofs.YthclkbaankjbiaaGreatDoor
