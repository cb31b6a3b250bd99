/- The text of any tree. -/
import Derived.Test.YtoahgeleenpnjaaGreatDoorE25
import Derived.Test.YtoahgeleenpnjaaGreatDoorE5
import Derived.Test.YtoahgeleenpnjaaGreatDoorE7
import Derived.Test.YtoahgeleenpnjaaGreatDoorE8
import Derived.Test.YtoahgeleenpnjaaGreatDoorE3
set_option linter.unusedVariables false
set_option linter.unusedSimpArgs false
namespace Go.Proofs.YtoahgeleenpnjaaGreatDoor
open Go.RowKit

def wholeI (l : List TokI) : List UInt8 := l.flatMap fun t => t.lead ++ t.text

theorem wholeI_append (l r : List TokI) : wholeI (l ++ r) = wholeI l ++ wholeI r := by unfold wholeI; rw [List.flatMap_append]
theorem wholeI_next {l : List TokI} {k : Nat} {t : TokI} (h : l[k]? = some t) : wholeI (l.take (k + 1)) = wholeI (l.take k) ++ t.lead ++ t.text := by
  rw [List.take_add_one, h, wholeI_append]; simp [wholeI]
theorem wholeI_take (l : List TokI) (k : Nat) : (wholeI (l.take k)).length ≤ (wholeI l).length := by
  have h1 : wholeI l = wholeI (l.take k) ++ wholeI (l.drop k) := by rw [← wholeI_append, List.take_append_drop]
  rw [h1, List.length_append]; omega

set_option maxRecDepth 100000 in
set_option maxHeartbeats 8000000 in
theorem WholeI_c (q : Option Addr) (c : Nat) (l : List TokI) (w : World) (hl : l.length ≤ 1000000) (hL : (wholeI l).length ≤ 1000000) (h : ToksAt w q l) : Calls Tryz.prog 88 #[.slice q l.length c] w (StrGb (wholeI l) w) := by
  obtain ⟨m, hm⟩ : ∃ m, l.length = m := ⟨_, rfl⟩
  have HM := Lib.hid hm; have HA := Lib.hid h; have HL := Lib.hid hL
  rw [hm] at hl ⊢
  clear hm h hL
  go_enter Tryz.func88, Tryz.ntmps88
  go_wp2_with fail
  have hbl := bld_new w w.heap.size (Nat.le_refl _)
  have hga := World.grownBy_alloc w (.cells #[.pointer none, .slice none 0 0] 97) none
  generalize (w.alloc (.cells #[.pointer none, .slice none 0 0] 97)) = W at *
  obtain ⟨b, hb⟩ : ∃ b, w.heap.size = b := ⟨_, rfl⟩
  have HBB := Lib.hid hb
  rw [hb] at hbl ⊢
  have HBL := Lib.hid hbl; have HGA := Lib.hid hga
  clear hbl hga hb
  go_loopw [8] (fun i wr => ∃ k : Nat, k ≤ m ∧ i = .int .i64 k ∧ Hid (Lib.IsBuilder 97 5 b b (Lib.byteCells (wholeI (l.take k))) wr) ∧ Hid (w.grownBy wr none)) (fun i _ => m - (intOf i).toNat)
  case atStart => exact ⟨0, Nat.zero_le _, rfl, HBL, HGA⟩
  case round =>
    clear HBL HGA
    obtain ⟨k, hk, rfl, HBL, HG⟩ := hrel
    by_cases hlt : k < m
    · have d1 : decide ((k : Int) < (m : Int)) = true := decide_eq_true (by omega)
      have d1' : decide (k < m) = true := decide_eq_true hlt
      obtain ⟨t, ht⟩ : ∃ t, l[k]? = some t := ⟨l[k]'(by rw [HM.out]; exact hlt), List.getElem?_eq_getElem _⟩
      obtain ⟨g, off, rfl, hgl, c0, c1, c2, c3⟩ := tok_at HA.out ht
      have c0 := HG.out.cell c0 (by simp)
      have c1 := HG.out.cell c1 (by simp)
      have c2 := HG.out.cell c2 (by simp)
      have c3 := HG.out.cell c3 (by simp)
      have hnx := wholeI_next ht
      have hle1 := wholeI_take l k
      have hle2 := wholeI_take l (k + 1)
      have hL := HL.out
      rw [hnx] at hle2
      simp only [List.length_append] at hle2
      obtain ⟨x, hx⟩ : ∃ x : ByteArray, (⟨t.lead.toArray⟩ : ByteArray) = x := ⟨_, rfl⟩
      obtain ⟨y, hy⟩ : ∃ y : ByteArray, (⟨t.text.toArray⟩ : ByteArray) = y := ⟨_, rfl⟩
      have hxl : x.data.toList = t.lead := by rw [← hx]
      have hyl : y.data.toList = t.text := by rw [← hy]
      have hxs : x.size = t.lead.length := by rw [← list_len, hxl]
      have hys : y.size = t.text.length := by rw [← list_len, hyl]
      unfold strV at c1 c2
      rw [hx] at c1
      rw [hy] at c2
      have HNX : Hid (Lib.byteCells (wholeI (l.take (k + 1))) = Lib.byteCells (wholeI (l.take k)) ++ Lib.strCells x ++ Lib.strCells y) := Lib.hid (by
        rw [hnx, Lib.byteCells_append, Lib.byteCells_append, ← strCells_mk t.lead, ← strCells_mk t.text, hx, hy])
      have HZ1 : Hid ((Lib.byteCells (wholeI (l.take k))).length + x.size ≤ 140737488355328) := Lib.hid (by rw [Lib.byteCells_length]; omega)
      have HZ2 : Hid ((Lib.byteCells (wholeI (l.take k)) ++ Lib.strCells x).length + y.size ≤ 140737488355328) := Lib.hid (by rw [List.length_append, Lib.byteCells_length, Lib.strCells_length]; omega)
      have HBX := Lib.hid (heap_alloc_new wr (.cells #[.int .i64 t.kind, .string x, .string y, .int .i64 t.pos] 92))
      have hga := World.grownBy_alloc wr (.cells #[.int .i64 t.kind, .string x, .string y, .int .i64 t.pos] 92) none
      have HB2 := Lib.hid (bld_kept HBL.out hga)
      have HG2 := Lib.hid (gb_trans HG.out hga)
      have HXS : Hid (b < wr.heap.size) := Lib.hid (by
        rcases HBL.out with h | h
        · exact h.lt
        · exact h.lt)
      obtain ⟨b0, b1, b2, b3, b4⟩ := cells4 HBX.out
      generalize t.kind = tk at *
      generalize t.pos = tp at *
      clear hgl ht hnx hle1 hle2 hL hx hy hxl hyl hxs hys hga HBL HG b4
      go_wp2_with fail
      refine (WriteString_c b b _ x _ HB2.out HZ1.out (by have := HG2.out.size; rw [HBB.out] at this; exact this)).mono ?_
      rintro e w2 ⟨rfl, ⟨hb2, hbe2⟩, hok2⟩
      have HB3 := Lib.hid hb2
      have hgg : w.grownBy w2 none := below_gb (Below.trans2 (gb_below HG2.out) (by rw [HBB.out]; exact hbe2))
      have HG3 := Lib.hid hgg
      have hbx2 := hok2 _ _ _ HBX.out (by decide) (by have := HXS.out; omega)
      obtain ⟨e0, e1, e2, e3, e4⟩ := cells4 hbx2
      clear hb2 hbe2 hok2 hgg hbx2 b0 b1 b2 b3 c0 c1 c2 c3 HB2 e4
      go_wp2_with fail
      refine (WriteString_c b b _ y _ (.inr HB3.out) HZ2.out (by have := HG3.out.size; rw [HBB.out] at this; exact this)).mono ?_
      rintro e w3 ⟨rfl, ⟨hb3, hbe3⟩, -⟩
      rw [← HNX.out] at hb3
      have HB4 : Hid (Lib.IsBuilder 97 5 b b (Lib.byteCells (wholeI (l.take (k + 1)))) w3) := Lib.hid (.inr hb3)
      have hgg : w.grownBy w3 none := below_gb (Below.trans2 (gb_below HG3.out) (by rw [HBB.out]; exact hbe3))
      have HG4 := Lib.hid hgg
      clear hb3 hbe3 hgg HB3 HG2 HG3 e0 e1 e2 e3
      go_wp2_with fail
      go_roundw
      case rel => exact ⟨k + 1, by omega, by go_num, HB4, HG4⟩
      case measure => (simp [intOf] <;> omega)
    · obtain rfl : k = m := by omega
      rw [List.take_of_length_le (by rw [HM.out]; exact Nat.le_refl _)] at HBL
      have HSTR := Lib.hid (Tryz.Builder_String_any_k b b _ wr (Lib.IsBuilderF.of HBL.out) (by have := HG.out.size; rw [HBB.out] at this; exact this))
      go_wp2_with fail
      refine HSTR.out.mono ?_
      rintro e w7 ⟨rfl, -, hbe7, -⟩
      have HG7 : Hid (w.grownBy w7 none) := Lib.hid (below_gb (Below.trans2 (gb_below HG.out) (by rw [HBB.out]; exact hbe7)))
      clear hbe7
      go_wp2_with fail
      go_ret
      exact ⟨⟨_, rfl, rfl⟩, HG7.out⟩
set_option maxRecDepth 100000 in
set_option maxHeartbeats 4000000 in
theorem ShowI_c (l : List TokI) (pt pn : Option Addr) (ct M cn : Nat) (w : World) (hl : l.length ≤ 1000000) (hL : (wholeI l).length ≤ 1000000) (h : ToksAt w pt l) :
    Calls Tryz.prog 54 #[.agg #[.slice pt l.length ct, .slice pn M cn]] w (StrGb (wholeI l) w) := by
  have HWH := Lib.hid (fun W (h : ToksAt W pt l) => WholeI_c pt ct l W hl hL h)
  have HT := Lib.hid h
  obtain ⟨m, hm⟩ : ∃ m, l.length = m := ⟨_, rfl⟩
  rw [hm] at HWH ⊢
  clear hm h hl hL
  go_enter Tryz.func54, Tryz.ntmps54
  go_wp2_with fail
  have hgA := World.grownBy_alloc w (.cells #[.slice pt m ct, .slice pn M cn] 26) none
  refine (HWH.out _ (HT.out.kept hgA)).mono ?_
  rintro e w1 ⟨⟨s, rfl, hs⟩, hg⟩
  have HS := Lib.hid hs
  have HG := Lib.hid (gb_trans hgA hg)
  clear hgA hg hs
  go_wp2_with fail
  go_ret
  exact ⟨⟨s, rfl, HS.out⟩, HG.out⟩
theorem wholeI_toI (l : List Tok) : wholeI (l.map toI) = wholeL l := by unfold wholeI wholeL; rw [List.flatMap_map]; rfl
end Go.Proofs.YtoahgeleenpnjaaGreatDoor
namespace Go.Proofs.YtoahgeleenpnjaaGreatDoor
open Go.RowKit

def FarK (N : List Nd) (K : Kf) (A : Nat → Prop) : Prop := ∀ (i : Nat) (x : Nd), N[i]? = some x → x.kids ≠ [] → ∀ a, (K i).1 = some a → A a.block
def FarV (w : World) (b : Nat) (l : List Tok) (u : Nat) (N : List Nd) (vn : Value) (A : Nat → Prop) : Prop := ∃ pt ct K, Bld w b pt ct l u vn N K ∧ FarK N K A
theorem FarV.bld {w : World} {b : Nat} {l : List Tok} {u : Nat} {N : List Nd} {vn : Value} {A : Nat → Prop} (h : FarV w b l u N vn A) : BldV w b l u N vn := by
  obtain ⟨pt, ct, K, h, -⟩ := h
  exact ⟨pt, ct, K, h⟩
theorem FarV.kept {w w' : World} {b : Nat} {l : List Tok} {u : Nat} {N : List Nd} {vn : Value} {A : Nat → Prop} (h : FarV w b l u N vn A) (hg : w.grownBy w' none) : FarV w' b l u N vn A := by
  obtain ⟨pt, ct, K, h, hf⟩ := h
  exact ⟨pt, ct, K, h.kept hg, hf⟩
/-- Beside turns of blocks that are far from it; the blocks to be far from may then be others. -/
theorem FarV.keptF {S : Nat → Prop} {w w' : World} {b : Nat} {l : List Tok} {u : Nat} {N : List Nd} {vn : Value} {A A' : Nat → Prop} (h : FarV w b l u N vn A) (hf : Fr2 S w w') (hS : ∀ k, k ≤ b → ¬ S k) (hv : ∀ k, vn.ownBlock = some k → ¬ S k) (hA : ∀ k, A k → ¬ S k) (hA' : ∀ k, k < w.heap.size → A k → A' k) : FarV w' b l u N vn A' := by
  obtain ⟨pt, ct, K, h, hk⟩ := h
  exact ⟨pt, ct, K, h.keptF hf hS hv fun i x hx hn a ha => hA _ (hk i x hx hn a ha), fun i x hx hn a ha => hA' _ (h.khi i x hx hn a ha).2.1 (hk i x hx hn a ha)⟩

def AddFar (w : World) (b : Nat) (l : List Tok) (u : Nat) (N : List Nd) (x : Nd) (vn : Value) (A : Nat → Prop) (e : Ending) (w' : World) : Prop :=
  e = .returned (.int .i64 (N.length : Int)) ∧ ∃ vn', FarV w' b l u (N ++ [x]) vn' A ∧ Fr2 (Turn b vn) w w' ∧ ∀ k, vn'.ownBlock = some k → vn.ownBlock = some k ∨ w.heap.size ≤ k

theorem AddFar.after {w w1 : World} {b : Nat} {l : List Tok} {u : Nat} {N : List Nd} {x : Nd} {vn : Value} {A : Nat → Prop} {e : Ending} {w' : World} (h : AddFar w1 b l u N x vn A e w') (hf : Fr2 (Turn b vn) w w1) : AddFar w b l u N x vn A e w' := by
  obtain ⟨he, vn', h1, h2, h3⟩ := h
  exact ⟨he, vn', h1, hf.trans h2, fun k hk => (h3 k hk).imp id fun h => Nat.le_trans hf.size h⟩

/-- A node more. -/
theorem Bld.addF {A : Nat → Prop} {w w5 : World} {b : Nat} {pt : Option Addr} {ct : Nat} {l : List Tok} {u u' : Nat} {vn : Value} {N : List Nd} {K : Kf} (h : Bld w b pt ct l u vn N K) (hf : Fr2 (Turn b vn) w w5) {g9 n9 cap9 : Nat} (hbox : w5.heap[b]? = some (.cells #[.slice pt l.length ct, .int .i64 (u' : Int), .slice (some ⟨g9, 0, none⟩) n9 cap9] 145 (0, 0)))
    {x : Nd} {p : Option Addr} {c : Nat} (hown : OwnG 3 93 w5 (b + 1) (.slice (some ⟨g9, 0, none⟩) n9 cap9) (ndsV K N ++ [[.int .i64 x.kind, .int .i64 x.tok, .slice p x.kids.length c]])) (hk : VAt w p (intsV x.kids)) (hkb : x.kids ≠ [] → ∀ a, p = some a → b < a.block ∧ vn.ownBlock ≠ some a.block)
    (hl9 : vn.ownBlock = some g9 ∨ w.heap.size ≤ g9) (hFK : FarK N K A) (hpA : x.kids ≠ [] → ∀ a, p = some a → A a.block) : FarV w5 b l u' (N ++ [x]) (.slice (some ⟨g9, 0, none⟩) n9 cap9) A := by
  obtain ⟨K', hK1, hK2⟩ := kf_snoc K N.length p c
  have hkn : ∀ (i : Nat) (y : Nd), (N ++ [x])[i]? = some y → (i < N.length ∧ N[i]? = some y ∧ K' i = K i) ∨ (i = N.length ∧ y = x ∧ K' i = (p, c)) := fun i y hy => by
    by_cases hi : i < N.length
    · rw [List.getElem?_append_left hi] at hy; exact .inl ⟨hi, hy, hK2 i (by omega)⟩
    · have h1 := (List.getElem?_eq_some_iff.1 hy).1
      rw [List.length_append, List.length_singleton] at h1
      obtain rfl : i = N.length := by omega
      rw [List.getElem?_append_right (Nat.le_refl _)] at hy
      simp at hy
      exact .inr ⟨rfl, hy.symm, hK1⟩
  refine ⟨pt, ct, K', ⟨hbox, h.cap, h.toks.keptF hf (fun h0 a ha => ?_), h.tlow, by rw [ndsV_snoc hK1 hK2]; exact hown, fun i y hy => ?_, fun i y hy hn a ha => ?_⟩, fun i y hy hn a ha => ?_⟩
  · have h1 := h.tlow h0 a ha
    rintro (e | e)
    · omega
    · have := (h.turn _ e).1; omega
  · rcases hkn i y hy with ⟨-, hy, e⟩ | ⟨-, rfl, e⟩
    · rw [e]
      refine (h.kids i y hy).keptF hf fun h0 a ha => ?_
      obtain ⟨h1, h2, h3⟩ := h.khi i y hy (intsV_ne h0) a ha
      rintro (e | e)
      · omega
      · exact h3 e
    · rw [e]
      refine hk.keptF hf fun h0 a ha => ?_
      obtain ⟨h1, h3⟩ := hkb (intsV_ne h0) a ha
      rintro (e | e)
      · omega
      · exact h3 e
  · have hx9 : ∀ k, (Value.slice (some ⟨g9, 0, none⟩) n9 cap9).ownBlock = some k → g9 = k := fun k e => by simpa [Value.ownBlock] using e
    rcases hkn i y hy with ⟨-, hy, e⟩ | ⟨-, rfl, e⟩
    · rw [e] at ha
      obtain ⟨h1, h2, h3⟩ := h.khi i y hy hn a ha
      refine ⟨h1, Nat.lt_of_lt_of_le h2 hf.size, fun e9 => ?_⟩
      have := hx9 _ e9
      subst this
      rcases hl9 with h | h
      · exact h3 h
      · omega
    · rw [e] at ha
      obtain ⟨h1, h3⟩ := hkb hn a ha
      have h2 := hk.lt (ne_intsV hn) a ha
      refine ⟨h1, Nat.lt_of_lt_of_le h2 hf.size, fun e9 => ?_⟩
      have := hx9 _ e9
      subst this
      rcases hl9 with h | h
      · exact h3 h
      · omega
  · rcases hkn i y hy with ⟨-, hy, e⟩ | ⟨-, rfl, e⟩
    · rw [e] at ha; exact hFK i y hy hn a ha
    · rw [e] at ha; exact hpA hn a ha

set_option maxRecDepth 100000 in
set_option maxHeartbeats 8000000 in
theorem add_far (A : Nat → Prop) (b : Nat) (l : List Tok) (u : Nat) (N : List Nd) (vn : Value) (x : Nd) (p : Option Addr) (c : Nat) (w : World) (hN : N.length ≤ 100000) (h : FarV w b l u N vn A) (hk : VAt w p (intsV x.kids)) (hkb : x.kids ≠ [] → ∀ a, p = some a → b < a.block ∧ vn.ownBlock ≠ some a.block) (hpA : x.kids ≠ [] → ∀ a, p = some a → A a.block) :
    Calls Tryz.prog 86 #[.pointer (some ⟨b, 0, none⟩), .agg #[.int .i64 x.kind, .int .i64 x.tok, .slice p x.kids.length c]] w (AddFar w b l u N x vn A) := by
  obtain ⟨pt, ct, K, h, hFK⟩ := h
  have HFK := Lib.hid hFK; have HPA := Lib.hid hpA; have H := Lib.hid h; have HK := Lib.hid hk; have HKB := Lib.hid hkb
  obtain ⟨pv, cv, e1, -, hcv, -⟩ := h.own.is
  rw [nds_len] at e1 hcv
  subst e1
  obtain ⟨B, hB⟩ : ∃ B, w.heap.size = B := ⟨_, rfl⟩
  have HBW := Lib.hid hB
  have hbB : b < B := by rw [← hB]; exact hlt' h.box
  have HOWN := Lib.hid h.own
  have HLE : Hid ((ndsV K N).length ≤ 1000000) := Lib.hid (by rw [nds_len]; omega)
  have HNL : Hid ((ndsV K N).length = N.length) := Lib.hid (nds_len K N)
  obtain ⟨m, hm⟩ : ∃ m, l.length = m := ⟨_, rfl⟩
  obtain ⟨M, hM⟩ : ∃ M, N.length = M := ⟨_, rfl⟩
  have HML := Lib.hid hM
  have HLL := Lib.hid hm
  obtain ⟨kl, hkl⟩ : ∃ kl, x.kids.length = kl := ⟨_, rfl⟩
  have HKL := Lib.hid hkl
  rw [hM] at HOWN
  obtain ⟨xk, hxk⟩ : ∃ xk, x.kind = xk := ⟨_, rfl⟩
  obtain ⟨xt, hxt⟩ : ∃ xt, x.tok = xt := ⟨_, rfl⟩
  have HXK := Lib.hid hxk; have HXT := Lib.hid hxt
  have hbox := h.box
  rw [hm, hM] at hbox
  rw [hxk, hxt, hkl]
  have hA := heap_alloc_new w (.cells #[.int .i64 xk, .int .i64 xt, .slice p kl c] 93)
  have hgA := World.grownBy_alloc w (.cells #[.int .i64 xk, .int .i64 xt, .slice p kl c] 93) none
  have hsA : (w.alloc (.cells #[.int .i64 xk, .int .i64 xt, .slice p kl c] 93)).heap.size = B + 1 := by simp [hB]
  obtain ⟨d0, d1, d2, d3⟩ := cells3' (bx hgA hbox)
  have HBX := Lib.hid hbox
  rw [hB] at hA
  obtain ⟨a0, a1, a2, a3⟩ := cells3' hA
  clear hFK hpA hbox hm hM hkl hxk hxt h hk hkb hcv
  go_enter Tryz.func86, Tryz.ntmps86
  go_wp2_with fail
  try rw [hB]
  generalize (w.alloc (.cells #[.int .i64 xk, .int .i64 xt, .slice p kl c] 93)) = W at *
  have HOW := Lib.hid (OwnG.kept HOWN.out hgA)
  have HGA := Lib.hid hgA
  have hnew := heap_alloc_new W (.cells #[.int .i64 xk, .int .i64 xt, .slice p kl c] 93)
  rw [hsA] at hnew
  have HNEW := Lib.hid hnew
  have HBX2 := Lib.hid (bx (World.grownBy_alloc W (.cells #[.int .i64 xk, .int .i64 xt, .slice p kl c] 93) none) (bx hgA HBX.out))
  have hoa : ∀ k, (Value.slice pv M cv).ownBlock = some k → b + 1 ≤ k ∧ k < B + 1 := fun k e => by
    obtain ⟨h1, h2⟩ := OwnG.at HOW.out k e
    omega
  have HOA := Lib.hid hoa
  clear hA hgA hB hnew hoa
  go_region_law (refine step_appGl (s := 3) (t := 24) (T := 93) (by decide) Tryz.underlying24 infoTN rfl (by omega) rfl _ _ rfl (b + 1) (ndsV K N) [.int .i64 xk, .int .i64 xt, .slice p kl c] rfl (fun u hu => by simp at hu; rcases hu with rfl | rfl | rfl <;> rfl) (.slice pv M cv) rfl (OwnG.kept HOW.out (by repeat (first | with_reducible exact gb_refl _ _ | with_reducible refine gb_drew ?_ | with_reducible refine gb_alloc ?_ _))) (B + 1) _ rfl (by exact HNEW.out) rfl HLE.out (by simp; omega) (B + 2) (by simp; omega) ?_; intro g9 cap9 w9 hO9 hg9 hl9; have hb9 := (hg9.block b (by simp; omega) (fun e => by have := (HOA.out b e.symm).1; omega)).trans HBX2.out; obtain ⟨f0, f1, f2, f3⟩ := cells3' hb9; have HB9 := Lib.hid hb9; have HO9 := Lib.hid hO9; have HG9 := Lib.hid hg9; have HL9 := Lib.hid hl9; clear hO9 hg9 hl9 hb9)
  all_goals
    rw [HNL.out, HML.out] at HO9 ⊢
    have HF9 : Hid (Fr2 (Turn b (.slice pv M cv)) w w9) := Lib.hid (Fr2.trans (b := (W.alloc (.cells #[.int .i64 xk, .int .i64 xt, .slice p kl c] 93)).drew) (Fr2.none (gb_trans HGA.out (gb_drew (gb_alloc (gb_refl _ _) _)))) (Fr2.of (S := Turn b (.slice pv M cv)) HG9.out (fun k e => Or.inr e)))
    have HF10 := Lib.hid (HF9.out.setCell (g := b) (j := 2) (.inl rfl) (.slice (some ⟨g9, 0, none⟩) (M + 1) cap9))
    have HB10 := Lib.hid (show (w9.setCell ⟨b, 2, none⟩ (.slice (some ⟨g9, 0, none⟩) (M + 1) cap9)).heap[b]? = some (.cells #[.slice pt m ct, .int .i64 (u : Int), .slice (some ⟨g9, 0, none⟩) (M + 1) cap9] 145 (0, 0)) from set_cells (i := 2) HB9.out)
    have HO10 := Lib.hid (OwnG.keptF HO9.out (Fr2.setCell (S := fun k => k = b) (Fr2.refl _ w9) (g := b) (j := 2) rfl (.slice (some ⟨g9, 0, none⟩) (M + 1) cap9)) (fun k e => by have := (OwnG.at HO9.out k e).1; omega))
    obtain ⟨W5, hW5⟩ : ∃ W5, (w9.setCell ⟨b, 2, none⟩ (.slice (some ⟨g9, 0, none⟩) (M + 1) cap9)) = W5 := ⟨_, rfl⟩
    rw [hW5] at HF10 HB10 HO10 ⊢
    clear HF9 HB9 HO9 hW5 d0 d1 d2 d3 f0 f1 f2 f3 a0 a1 a2 a3 HG9
    obtain ⟨f0, f1, f2, f3⟩ := cells3' HB10.out
    have hw1 : IntKind.i64.wrap (M : Int) = (M : Int) := IntWalk.i64_in _ (by have := HML.out; omega)
    have hw2 : IntKind.i64.wrap (((M + 1 : Nat) : Int) - 1) = (M : Int) := by rw [show (((M + 1 : Nat) : Int) - 1) = (M : Int) by omega]; exact hw1
    go_wp2_with fail
    go_ret
    refine ⟨by rw [HML.out]; rfl, _, Bld.addF H.out (by rw [HML.out]; exact HF10.out) (by rw [HLL.out]; exact HB10.out) (by rw [HXK.out, HXT.out, HKL.out]; exact HO10.out) HK.out HKB.out (by rw [HML.out, HBW.out]; exact HL9.out.imp id (fun h => by omega)) HFK.out HPA.out, by rw [HML.out]; exact HF10.out, fun k e => ?_⟩
    have h1 : g9 = k := by simpa [Value.ownBlock] using e
    subst h1
    rw [HML.out, HBW.out]
    exact HL9.out.imp id (fun h => by omega)
set_option maxRecDepth 100000 in
set_option maxHeartbeats 8000000 in
theorem Leaf_far (A : Nat → Prop) (b : Nat) (l : List Tok) (u : Nat) (N : List Nd) (vn : Value) (w : World) (hl : l.length ≤ 100000) (hu : u < l.length) (hN : N.length ≤ 100000) (h : FarV w b l u N vn A) :
    Calls Tryz.prog 116 #[.pointer (some ⟨b, 0, none⟩)] w (AddFar w b l (u + 1) N ⟨19, (u : Int), []⟩ vn A) := by
  obtain ⟨pt, ct, K, h, hFK⟩ := h
  have hbox := h.box
  have HADD := Lib.hid (fun W (h : FarV W b l (u + 1) N vn A) => add_far A b l (u + 1) N vn ⟨19, (u : Int), []⟩ none 0 W hN h (.inl rfl) (fun h => absurd rfl h) (fun h => absurd rfl h))
  obtain ⟨pv, cv, e1, -, -, -⟩ := h.own.is
  have HH := Lib.hid h
  obtain ⟨m, hm⟩ : ∃ m, l.length = m := ⟨_, rfl⟩
  rw [hm] at hbox hu hl
  have HP : Hid (∀ W e w', Fr2 (Turn b vn) w W → AddFar W b l (u + 1) N ⟨19, (u : Int), []⟩ vn A e w' → AddFar w b l (u + 1) N ⟨19, (u : Int), []⟩ vn A e w') := Lib.hid (fun _ _ _ h1 h2 => h2.after h1)
  have HF : Hid (∀ W, w.grownBy W none → Fr2 (Turn b vn) w (W.setCell ⟨b, 1, none⟩ (.int .i64 ((u + 1 : Nat) : Int))) ∧ FarV (W.setCell ⟨b, 1, none⟩ (.int .i64 ((u + 1 : Nat) : Int))) b l (u + 1) N vn A) := Lib.hid (fun W hg => ⟨(Fr2.none hg).setCell (g := b) (j := 1) (.inl rfl) _, pt, ct, K, (HH.out.kept hg).setUsed (u + 1), hFK⟩)
  obtain ⟨d0, d1, d2, d3⟩ := cells3' hbox
  have e1 : ((u : Int) == (m : Int)) = false := beq_eq_false_iff_ne.2 (by omega)
  have e2 : (u == m) = false := beq_eq_false_iff_ne.2 (by omega)
  have hw1 : IntKind.i64.wrap ((u : Int) + 1) = ((u + 1 : Nat) : Int) := by rw [IntWalk.i64_in _ (by omega)]; omega
  have hw2 : IntKind.i64.wrap (((u + 1 : Nat) : Int) - 1) = (u : Int) := by rw [IntWalk.i64_in _ (by omega)]; omega
  generalize AddFar w b l (u + 1) N ⟨19, (u : Int), []⟩ vn A = Q at HP
  obtain ⟨u1, hu1⟩ : ∃ u1, u + 1 = u1 := ⟨_, rfl⟩
  rw [hu1] at hw1 hw2 HF HADD HP
  clear hbox hm h hu1
  go_enter Tryz.func116, Tryz.ntmps116
  go_wp2_with fail
  go_quiet (fail)
  go_wp2_with fail
  obtain ⟨hf1, hb1⟩ := HF.out (w.drewN nq) (gb_drewN (gb_refl _ _) _)
  refine (HADD.out _ hb1).mono ?_
  rintro e w' hp
  have HP1 := Lib.hid (HP.out _ _ _ hf1 hp)
  obtain rfl := hp.1
  clear hp hf1 hb1 HP HF HADD
  go_wp2_with fail
  exact HP1.out

set_option maxRecDepth 100000 in
set_option maxHeartbeats 8000000 in
theorem Node_far (A : Nat → Prop) (b : Nat) (l : List Tok) (u : Nat) (N : List Nd) (vn : Value) (kind : Int) (kids : List Int) (q : Option Addr) (c : Nat) (w : World) (hN : N.length ≤ 100000) (hk : kids.length ≤ 100000) (h : FarV w b l u N vn A) (hA : ∀ k, w.heap.size ≤ k → A k) (hq : VAt w q (intsV kids)) (hok : okB N.length kids = true) :
    Calls Tryz.prog 52 #[.pointer (some ⟨b, 0, none⟩), .int .i64 kind, .slice q kids.length c] w (AddFar w b l u N ⟨kind, -1, kids⟩ vn A) := by
  obtain ⟨pt, ct, K, h, hFK⟩ := h
  have hbox := h.box
  have HH := Lib.hid h
  have HFK := Lib.hid hFK; have HFA := Lib.hid hA
  have HADD := Lib.hid (fun W p' c' (h : FarV W b l u N vn A) h1 h2 h3 => add_far A b l u N vn ⟨kind, -1, kids⟩ p' c' W hN h h1 h2 h3)
  have HE := Lib.hid (eachBelow_c N.length kids q c w (by omega) (by omega) hq)
  rw [hok] at HE
  have HON := Lib.hid (fun W h => ownNode_c kind (-1) kids q c W hk h)
  have HQ := Lib.hid hq
  have HTN := Lib.hid h.turn
  have hbl := hlt' h.box
  have HBL := Lib.hid hbl
  have HP : Hid (∀ W e w', Fr2 (Turn b vn) w W → AddFar W b l u N ⟨kind, -1, kids⟩ vn A e w' → AddFar w b l u N ⟨kind, -1, kids⟩ vn A e w') := Lib.hid (fun _ _ _ h1 h2 => h2.after h1)
  obtain ⟨pv, cv, e1, -, -, -⟩ := h.own.is
  rw [nds_len] at e1
  obtain ⟨m, hm⟩ : ∃ m, l.length = m := ⟨_, rfl⟩
  obtain ⟨M, hM⟩ : ∃ M, N.length = M := ⟨_, rfl⟩
  obtain ⟨kl, hkl⟩ : ∃ kl, kids.length = kl := ⟨_, rfl⟩
  have HM := Lib.hid hM; have HKL := Lib.hid hkl
  rw [hM] at e1
  rw [hm, e1] at hbox
  rw [hM, hkl] at HE
  rw [hkl] at HON
  rw [hkl]
  generalize AddFar w b l u N ⟨kind, -1, kids⟩ vn A = Q at HP
  obtain ⟨d0, d1, d2, d3⟩ := cells3' hbox
  clear hFK hA hbox hm h hM hkl hok hq hk hN e1 hbl
  go_enter Tryz.func52, Tryz.ntmps52
  go_wp2_with fail
  refine HE.out.mono ?_
  rintro e w1 ⟨rfl, hg⟩
  have HG := Lib.hid hg
  clear hg HE
  go_wp2_with fail
  refine (HON.out _ (HQ.out.kept HG.out)).mono ?_
  rintro e w2 ⟨hg2, p2, c2, rfl, hv2, -, hb2⟩
  have HG2 := Lib.hid (gb_trans HG.out hg2)
  have HV2 := Lib.hid hv2
  have HB2 := Lib.hid hb2
  have hgs := HG.out.size
  have HGS := Lib.hid hgs
  rw [HKL.out]
  clear hg2 hv2 hb2 hgs HON
  go_wp2_with fail
  have HA := Lib.hid (HADD.out w2 p2 c2 ⟨pt, ct, K, HH.out.kept HG2.out, HFK.out⟩ HV2.out (fun hne a ha => by
    obtain ⟨h1, -⟩ := HB2.out hne a ha
    have h2 := HGS.out
    have h3 := HBL.out
    refine ⟨by omega, fun e => ?_⟩
    have := (HTN.out _ e).2
    omega) (fun hne a ha => HFA.out _ (by
    have h1 := (HB2.out hne a ha).1
    have h2 := HGS.out
    omega)))
  rw [HKL.out] at HA
  refine HA.out.mono ?_
  rintro e w' hp
  have HP1 := Lib.hid (HP.out _ _ _ (Fr2.none HG2.out) hp)
  obtain rfl := hp.1
  clear hp HP HADD HA
  go_wp2_with fail
  exact HP1.out
end Go.Proofs.YtoahgeleenpnjaaGreatDoor
namespace Go.Proofs.YtoahgeleenpnjaaGreatDoor
open Go.RowKit

theorem cells10 {w : World} {r : Nat} {a b c d e f g h i j : Value} {T : TypeId} (hh : w.heap[r]? = some (.cells #[a, b, c, d, e, f, g, h, i, j] T (0, 0))) : w.cell? ⟨r, 0, none⟩ = some a ∧ w.cell? ⟨r, 1, none⟩ = some b ∧ w.cell? ⟨r, 2, none⟩ = some c ∧ w.cell? ⟨r, 3, none⟩ = some d ∧ w.cell? ⟨r, 4, none⟩ = some e ∧ w.cell? ⟨r, 5, none⟩ = some f ∧ w.cell? ⟨r, 6, none⟩ = some g ∧ w.cell? ⟨r, 7, none⟩ = some h ∧ w.cell? ⟨r, 8, none⟩ = some i ∧ w.cell? ⟨r, 9, none⟩ = some j ∧ ∀ o, w.frozen? ⟨r, o, none⟩ = false :=
  ⟨by rw [cell_of_row w r 0 _ T (0, 0) hh]; rfl, by rw [cell_of_row w r 1 _ T (0, 0) hh]; rfl, by rw [cell_of_row w r 2 _ T (0, 0) hh]; rfl, by rw [cell_of_row w r 3 _ T (0, 0) hh]; rfl, by rw [cell_of_row w r 4 _ T (0, 0) hh]; rfl, by rw [cell_of_row w r 5 _ T (0, 0) hh]; rfl, by rw [cell_of_row w r 6 _ T (0, 0) hh]; rfl, by rw [cell_of_row w r 7 _ T (0, 0) hh]; rfl, by rw [cell_of_row w r 8 _ T (0, 0) hh]; rfl, by rw [cell_of_row w r 9 _ T (0, 0) hh]; rfl, fun o => by simp [World.frozen?, hh]⟩

/-- The blocks that the parser turns. -/
def Tn (b bb : Nat) (vn : Value) : Nat → Prop := fun k => k = b ∨ k = bb ∨ vn.ownBlock = some k
/-- What calls of the parser do to the world. -/
structure Step (b bb : Nat) (vn : Value) (w : World) (vn' : Value) (w' : World) : Prop where
  fr : Fr2 (Tn b bb vn) w w'
  own : ∀ k, vn'.ownBlock = some k → vn.ownBlock = some k ∨ w.heap.size ≤ k
theorem Step.refl (b bb : Nat) (vn : Value) (w : World) : Step b bb vn w vn w := ⟨Fr2.refl _ _, fun _ h => .inl h⟩
theorem Step.of {b bb : Nat} {vn : Value} {w w' : World} (h : w.grownBy w' none) : Step b bb vn w vn w' := ⟨Fr2.none h, fun _ h => .inl h⟩
theorem Step.trans {b bb : Nat} {v0 v1 v2 : Value} {w0 w1 w2 : World} (h1 : Step b bb v0 w0 v1 w1) (h2 : Step b bb v1 w1 v2 w2) : Step b bb v0 w0 v2 w2 := by
  refine ⟨⟨h2.fr.os.trans h1.fr.os, h2.fr.tape.trans h1.fr.tape, h2.fr.output.trans h1.fr.output, Nat.le_trans h1.fr.size h2.fr.size, fun k hk hn => ?_⟩, fun k hk => ?_⟩
  · rw [h2.fr.block k (Nat.lt_of_lt_of_le hk h1.fr.size) ?_, h1.fr.block k hk hn]
    rintro (e | e | e)
    · exact hn (.inl e)
    · exact hn (.inr (.inl e))
    · rcases h1.own k e with h | h
      · exact hn (.inr (.inr h))
      · omega
  · rcases h2.own k hk with h | h
    · exact h1.own k h
    · exact .inr (Nat.le_trans h1.fr.size h)

/-- The parser at b, its builder at bb; the kids of its nodes lie in blocks of A. -/
structure XAt (w : World) (b bb : Nat) (T : List Tok) (D n : Nat) (s : St) (u : Nat) (N : List Nd) (vn : Value) (A : Nat → Prop) : Prop where
  box : w.heap[b]? = some (.cells #[.pointer (some ⟨bb, 0, none⟩), .int .i64 ((tokQ T s).kind : Int), strV (tokQ T s).lead, strV (tokQ T s).text, .int .i64 ((tokQ T s).pos : Int), .int .i64 (D : Int), .int .i64 (n : Int), .bool s.inn, .int .i64 (s.e : Int), .int .i64 (s.pos : Int)] 118 (0, 0))
  bld : FarV w bb T u N vn A
  far : ∀ k, A k → b < k
  new : ∀ k, w.heap.size ≤ k → A k
  lt : bb < b
  own : ∀ k, vn.ownBlock = some k → b < k ∧ k < w.heap.size
  ok : s.i < T.length
  few : N.length ≤ 2 * u

section
variable {w w' : World} {b bb : Nat} {T : List Tok} {D n : Nat} {s : St} {u : Nat} {N : List Nd} {vn : Value} {A : Nat → Prop}
theorem XAt.kept (h : XAt w b bb T D n s u N vn A) (hg : w.grownBy w' none) : XAt w' b bb T D n s u N vn A :=
  ⟨bx hg h.box, h.bld.kept hg, h.far, fun k hk => h.new k (Nat.le_trans hg.size hk), h.lt, fun k e => ⟨(h.own k e).1, Nat.lt_of_lt_of_le (h.own k e).2 hg.size⟩, h.ok, h.few⟩
theorem XAt.lt' (h : XAt w b bb T D n s u N vn A) : b < w.heap.size := hlt' h.box
/-- Cells of the parser's own are written. -/
theorem XAt.turn {n' : Nat} {s' : St} (h : XAt w b bb T D n s u N vn A) (hf : Fr2 (Self b) w w') (hb : w'.heap[b]? = some (.cells #[.pointer (some ⟨bb, 0, none⟩), .int .i64 ((tokQ T s').kind : Int), strV (tokQ T s').lead, strV (tokQ T s').text, .int .i64 ((tokQ T s').pos : Int), .int .i64 (D : Int), .int .i64 (n' : Int), .bool s'.inn, .int .i64 (s'.e : Int), .int .i64 (s'.pos : Int)] 118 (0, 0))) (ho : s'.i < T.length) : XAt w' b bb T D n' s' u N vn A :=
  ⟨hb, h.bld.keptF hf (fun k hk e => by have := h.lt; unfold Self at e; omega) (fun k e e2 => by have := (h.own k e).1; unfold Self at e2; omega) (fun k hk e => by have := h.far k hk; unfold Self at e; omega) (fun _ _ h => h), h.far, fun k hk => h.new k (Nat.le_trans hf.size hk), h.lt, fun k e => ⟨(h.own k e).1, Nat.lt_of_lt_of_le (h.own k e).2 hf.size⟩, ho, h.few⟩
theorem Step.self (h : Fr2 (Self b) w w') : Step b bb vn w vn w' := ⟨⟨h.os, h.tape, h.output, h.size, fun k hk hn => h.block k hk (fun e => hn (.inl e))⟩, fun _ h => .inl h⟩
end

/-! ### Slices of texts -/

def StrsAt (w : World) (v : Value) (ws : List (List UInt8)) : Prop := ∃ g, v = .slice (some ⟨g, 0, none⟩) ws.length ws.length ∧ ∀ (j : Nat) (x : List UInt8), ws[j]? = some x → w.cell? ⟨g, j, none⟩ = some (strV x)

def IdxPost (x : List UInt8) (ws : List (List UInt8)) (w : World) (e : Ending) (w' : World) : Prop := (∃ k : Int, e = .returned (.int .i64 k) ∧ decide (0 ≤ k) = decide (x ∈ ws)) ∧ w.grownBy w' none

set_option maxRecDepth 100000 in
set_option maxHeartbeats 4000000 in
theorem IndexS_c (g : Nat) (x : List UInt8) (ws : List (List UInt8)) (w : World) (hn : ws.length ≤ 100) (h : ∀ (j : Nat) (x : List UInt8), ws[j]? = some x → w.cell? ⟨g, j, none⟩ = some (strV x)) :
    Calls Tryz.prog 138 #[.slice (some ⟨g, 0, none⟩) ws.length ws.length, strV x] w (IdxPost x ws w) := by
  have HH := Lib.hid h
  clear h
  obtain ⟨m, hm⟩ : ∃ m, ws.length = m := ⟨_, rfl⟩
  have HM := Lib.hid hm
  unfold strV
  obtain ⟨xb, hxb⟩ : ∃ xb : ByteArray, (⟨x.toArray⟩ : ByteArray) = xb := ⟨_, rfl⟩
  have HX := Lib.hid hxb
  have HP : Hid (∀ (k : Int) (w' : World), decide (0 ≤ k) = decide (x ∈ ws) → w.grownBy w' none → IdxPost x ws w (.returned (.int .i64 k)) w') := Lib.hid (fun k w' h1 h2 => ⟨⟨k, rfl, h1⟩, h2⟩)
  rw [hm] at hn ⊢
  rw [hxb]
  clear hm hxb
  go_enter Tryz.func138, Tryz.ntmps138
  go_wp2_with fail
  go_loopw [8] (fun v wr => ∃ k : Nat, k ≤ m ∧ v = .int .i64 k ∧ wr = w ∧ Hid (∀ j, j < k → ws[j]? ≠ some x)) (fun v _ => m - (intOf v).toNat)
  case atStart => exact ⟨0, Nat.zero_le _, rfl, rfl, Lib.hid (fun j h => by omega)⟩
  case round =>
    obtain ⟨k, hk, rfl, rfl, HNO⟩ := hrel
    by_cases hlt : k < m
    · have d1 : decide ((k : Int) < (m : Int)) = true := decide_eq_true (by omega)
      have d1' : decide (k < m) = true := decide_eq_true hlt
      obtain ⟨y, hy⟩ : ∃ y, ws[k]? = some y := ⟨ws[k]'(by rw [HM.out]; exact hlt), List.getElem?_eq_getElem _⟩
      have c0 := HH.out k y hy
      unfold strV at c0
      obtain ⟨yb, hyb⟩ : ∃ yb : ByteArray, (⟨y.toArray⟩ : ByteArray) = yb := ⟨_, rfl⟩
      have e8 : (xb.toList == yb.toList) = decide (x = y) := by
        rw [← hyb, ← HX.out, toList_data, toList_data]
        by_cases e : x = y
        · rw [e]; simp
        · simp [e]
      rw [hyb] at c0
      have HY := Lib.hid hy
      clear hyb hy
      by_cases hxy : x = y
      · rw [decide_eq_true hxy] at e8
        have HIN : Hid (decide (0 ≤ (k : Int)) = decide (x ∈ ws)) := Lib.hid (by rw [decide_eq_true (show (0 : Int) ≤ (k : Int) by omega), decide_eq_true (by rw [hxy]; exact List.mem_of_getElem? HY.out)])
        clear hxy HNO
        go_wp2_with fail
        go_ret
        exact HP.out _ _ HIN.out (gb_refl _ _)
      · rw [decide_eq_false hxy] at e8
        have HN2 : Hid (∀ j, j < k + 1 → ws[j]? ≠ some x) := Lib.hid (fun j hj => by
          rcases Nat.lt_or_ge j k with h | h
          · exact HNO.out j h
          · obtain rfl : j = k := by omega
            rw [HY.out]; exact fun e => hxy (Option.some.inj e).symm)
        clear hxy HNO
        go_wp2_with fail
        go_roundw
        case rel => exact ⟨k + 1, by omega, by go_num, by first | rfl | trivial, HN2⟩
        case measure => (simp [intOf] <;> omega)
    · obtain rfl : k = m := by omega
      have HIN : Hid (decide (0 ≤ (-1 : Int)) = decide (x ∈ ws)) := Lib.hid (by
        rw [decide_eq_false (show ¬ (0 : Int) ≤ (-1 : Int) by omega), decide_eq_false]
        intro hx
        obtain ⟨j, hj⟩ := List.getElem?_of_mem hx
        exact HNO.out j (by rw [← HM.out]; exact (List.getElem?_eq_some_iff.1 hj).1) hj)
      clear HNO
      go_wp2_with fail
      go_ret
      exact HP.out _ _ HIN.out (gb_refl _ _)

set_option maxRecDepth 100000 in
set_option maxHeartbeats 4000000 in
theorem ContainsS_c (g : Nat) (x : List UInt8) (ws : List (List UInt8)) (w : World) (hn : ws.length ≤ 100) (h : ∀ (j : Nat) (x : List UInt8), ws[j]? = some x → w.cell? ⟨g, j, none⟩ = some (strV x)) :
    Calls Tryz.prog 115 #[.slice (some ⟨g, 0, none⟩) ws.length ws.length, strV x] w (ValPost (.bool (decide (x ∈ ws))) w) := by
  have HI := Lib.hid (IndexS_c g x ws w hn h)
  obtain ⟨m, hm⟩ : ∃ m, ws.length = m := ⟨_, rfl⟩
  obtain ⟨v, hv⟩ : ∃ v, strV x = v := ⟨_, rfl⟩
  rw [hm, hv] at HI ⊢
  clear hm hv h hn
  go_enter Tryz.func115, Tryz.ntmps115
  go_wp2_with fail
  refine HI.out.mono ?_
  rintro e w1 ⟨⟨k, rfl, hk⟩, hg⟩
  have HG := Lib.hid hg; have HK := Lib.hid hk
  clear hg HI hk
  go_wp2_with fail
  go_ret
  exact ⟨by rw [← HK.out]; rfl, HG.out⟩

/-- Is the next token one of these texts? -/
def atQ (T : List Tok) (ws : List (List UInt8)) (s : St) : Bool := decide (s.e = 0) && decide ((tokQ T s).text ∈ ws)

section
variable (b bb : Nat) (T : List Tok) (D n : Nat)

set_option maxRecDepth 100000 in
set_option maxHeartbeats 4000000 in
theorem at_c (s : St) (u : Nat) (N : List Nd) (vn v : Value) (A : Nat → Prop) (ws : List (List UInt8)) (w : World) (hn : ws.length ≤ 100) (h : XAt w b bb T D n s u N vn A) (hv : StrsAt w v ws) :
    Calls Tryz.prog 78 #[.pointer (some ⟨b, 0, none⟩), v] w (ValPost (.bool (atQ T ws s)) w) := by
  obtain ⟨d0, d1, d2, d3, d4, d5, d6, d7, d8, d9, d10⟩ := cells10 h.box
  obtain ⟨g, rfl, hc⟩ := hv
  have HC := Lib.hid (ContainsS_c g (tokQ T s).text ws w hn hc)
  have HA : Hid (atQ T ws s = (decide (s.e = 0) && decide ((tokQ T s).text ∈ ws))) := Lib.hid rfl
  obtain ⟨m, hm⟩ : ∃ m, ws.length = m := ⟨_, rfl⟩
  obtain ⟨t, ht⟩ : ∃ t, strV (tokQ T s).text = t := ⟨_, rfl⟩
  rw [ht] at d3
  rw [hm, ht] at HC
  rw [hm]
  obtain ⟨E, hE⟩ : ∃ E, s.e = E := ⟨_, rfl⟩
  rw [hE] at d8 HA
  clear hc h hn hm ht hE
  by_cases he : E = 0
  · subst he
    go_enter Tryz.func78, Tryz.ntmps78
    go_wp2_with fail
    refine HC.out.mono ?_
    rintro e w1 ⟨rfl, hg⟩
    have HG := Lib.hid hg
    clear hg HC
    go_wp2_with fail
    go_ret
    exact ⟨by rw [HA.out]; simp, HG.out⟩
  · have e2 : (E == 0) = false := beq_eq_false_iff_ne.2 he
    have e2' : ((E : Int) == 0) = false := beq_eq_false_iff_ne.2 (by omega)
    have HE := Lib.hid he
    clear he HC
    go_enter Tryz.func78, Tryz.ntmps78
    go_wp2_with fail
    go_ret
    exact ⟨by rw [HA.out, decide_eq_false HE.out]; rfl, gb_refl _ _⟩

set_option maxRecDepth 100000 in
set_option maxHeartbeats 4000000 in
theorem atKind_c (s : St) (u : Nat) (N : List Nd) (vn : Value) (A : Nat → Prop) (k : Nat) (w : World) (h : XAt w b bb T D n s u N vn A) :
    Calls Tryz.prog 87 #[.pointer (some ⟨b, 0, none⟩), .int .i64 (k : Int)] w (ValPost (.bool (decide (s.e = 0 ∧ (tokQ T s).kind = k))) w) := by
  obtain ⟨d0, d1, d2, d3, d4, d5, d6, d7, d8, d9, d10⟩ := cells10 h.box
  obtain ⟨t, ht⟩ : ∃ t, (tokQ T s).kind = t := ⟨_, rfl⟩
  rw [ht] at d1 ⊢
  obtain ⟨E, hE⟩ : ∃ E, s.e = E := ⟨_, rfl⟩
  rw [hE] at d8 ⊢
  clear h ht hE
  by_cases he : E = 0
  · subst he
    have e1 : ((t : Int) == (k : Int)) = decide (t = k) := by
      by_cases e : t = k
      · subst e; simp
      · rw [decide_eq_false e]; exact beq_eq_false_iff_ne.2 (by omega)
    have e1' : (t == k) = decide (t = k) := by by_cases e : t = k <;> simp [e]
    have HV : Hid (decide ((0 : Nat) = 0 ∧ t = k) = decide (t = k)) := Lib.hid (by simp)
    rw [HV.out]
    go_enter Tryz.func87, Tryz.ntmps87
    go_wp2_with fail
    go_ret
    exact ⟨by first | rfl | simp, gb_refl _ _⟩
  · have e2 : (E == 0) = false := beq_eq_false_iff_ne.2 he
    have e2' : ((E : Int) == 0) = false := beq_eq_false_iff_ne.2 (by omega)
    have HV : Hid (decide (E = 0 ∧ t = k) = false) := Lib.hid (decide_eq_false (fun e => he e.1))
    rw [HV.out]
    clear he
    go_enter Tryz.func87, Tryz.ntmps87
    go_wp2_with fail
    go_ret
    exact ⟨rfl, gb_refl _ _⟩

def FPost (b bb : Nat) (T : List Tok) (D n : Nat) (s : St) (u : Nat) (N : List Nd) (vn : Value) (A : Nat → Prop) (w : World) (e : Ending) (w' : World) : Prop := e = .returned (.int .i64 (-1)) ∧ XAt w' b bb T D n s u N vn A ∧ Step b bb vn w vn w'

set_option maxRecDepth 100000 in
set_option maxHeartbeats 4000000 in
theorem pfail_c (m : Nat) (s : St) (u : Nat) (N : List Nd) (vn : Value) (A : Nat → Prop) (w : World) (h : XAt w b bb T D n s u N vn A) :
    Calls Tryz.prog 79 #[.pointer (some ⟨b, 0, none⟩), .int .i64 (m : Int)] w (FPost b bb T D n (failQ T m s) u N vn A w) := by
  obtain ⟨d0, d1, d2, d3, d4, d5, d6, d7, d8, d9, d10⟩ := cells10 h.box
  have HB := Lib.hid h
  by_cases he : s.e = 0
  · have HF : Hid (failQ T m s = { s with e := m, pos := (tokQ T s).pos }) := Lib.hid (by unfold failQ; rw [if_pos he])
    have HB2 := Lib.hid (fun (v1 v2 : Value) => set_cells (i := 9) (u := v2) (set_cells (i := 8) (u := v1) h.box))
    obtain ⟨p, hp⟩ : ∃ p, (tokQ T s).pos = p := ⟨_, rfl⟩
    have HPP := Lib.hid hp
    rw [hp] at d4
    rw [he] at d8
    clear h he hp
    go_enter Tryz.func79, Tryz.ntmps79
    go_wp2_with fail
    go_ret
    have hf : Fr2 (Self b) w ((w.setCell ⟨b, 8, none⟩ (.int .i64 (m : Int))).setCell ⟨b, 9, none⟩ (.int .i64 (p : Int))) := ((Fr2.refl _ _).setCell (mine b) _).setCell (mine b) _
    refine ⟨rfl, ?_, Step.self hf⟩
    rw [HF.out]
    have hpp := HPP.out
    subst hpp
    exact HB.out.turn hf ((HB2.out _ _).trans rfl) HB.out.ok
  · have d11 : ((s.e : Int) == 0) = false := beq_eq_false_iff_ne.2 (by omega)
    have d11' : (s.e == 0) = false := beq_eq_false_iff_ne.2 he
    have HF : Hid (failQ T m s = s) := Lib.hid (fail_same T he)
    clear h he
    go_enter Tryz.func79, Tryz.ntmps79
    go_wp2_with fail
    go_ret
    exact ⟨rfl, by rw [HF.out]; exact HB.out, Step.refl _ _ _ _⟩
end
end Go.Proofs.YtoahgeleenpnjaaGreatDoor
namespace Go.Proofs.YtoahgeleenpnjaaGreatDoor
open Go.RowKit

/-- What a call that answers a place does. -/
def IPost (b bb : Nat) (T : List Tok) (D n k : Nat) (s : St) (r : RT) (N : List Nd) (vn : Value) (A : Nat → Prop) (w : World) (e : Ending) (w' : World) : Prop :=
  ∃ (v : Int) (N' : List Nd) (vn' : Value), e = .returned (.int .i64 v) ∧ XAt w' b bb T D n r.2 r.2.i N' vn' A ∧ Step b bb vn w vn' w' ∧ OutD k N s r N' [v] ∧ (s.e ≠ 0 → r.2.e ≠ 0)
theorem IPost.eqv {b bb : Nat} {T : List Tok} {D n k : Nat} {s : St} {r r' : RT} {N : List Nd} {vn : Value} {A : Nat → Prop} {w : World} {e : Ending} {w' : World} (h : IPost b bb T D n k s r N vn A w e w') (he : Eqv r r') : IPost b bb T D n k s r' N vn A w e w' := by
  obtain ⟨v, N', vn', h1, h2, h3, h4, h5⟩ := h
  exact ⟨v, N', vn', h1, he.1 ▸ h2, h3, h4.eqv he, fun h => by rw [← he.1]; exact h5 h⟩
/-- Ahead of it the world went from w0 to w. -/
theorem IPost.after {b bb : Nat} {T : List Tok} {D n k : Nat} {s : St} {r : RT} {N : List Nd} {vn : Value} {A : Nat → Prop} {w0 w : World} {e : Ending} {w' : World} (h : IPost b bb T D n k s r N vn A w e w') (hs : Step b bb vn w0 vn w) : IPost b bb T D n k s r N vn A w0 e w' := by
  obtain ⟨v, N', vn', h1, h2, h3, h4, h5⟩ := h
  exact ⟨v, N', vn', h1, h2, hs.trans h3, h4, h5⟩

/-- The builder has a node more. -/
theorem XAt.bump {w w' : World} {b bb : Nat} {T : List Tok} {D n : Nat} {s : St} {u u' : Nat} {N N' : List Nd} {vn vn' : Value} {A : Nat → Prop} (h : XAt w b bb T D n s u N vn A) (hb : FarV w' bb T u' N' vn' A) (hf : Fr2 (Turn bb vn) w w') (ho : ∀ k, vn'.ownBlock = some k → vn.ownBlock = some k ∨ w.heap.size ≤ k) (hN : N'.length ≤ 2 * u') : XAt w' b bb T D n s u' N' vn' A ∧ Step b bb vn w vn' w' := by
  have hw := h.lt'
  refine ⟨⟨hf.keep h.box (fun e => ?_), hb, h.far, fun k hk => h.new k (Nat.le_trans hf.size hk), h.lt, fun k e => ⟨?_, ?_⟩, h.ok, hN⟩, ⟨⟨hf.os, hf.tape, hf.output, hf.size, fun k hk hn => hf.block k hk (fun e => hn (e.elim (fun h => .inr (.inl h)) (fun h => .inr (.inr h))))⟩, ho⟩⟩
  · have h1 := h.lt
    rcases e with e | e
    · omega
    · have := (h.own _ e).1; omega
  · rcases ho k e with h1 | h1
    · exact (h.own k h1).1
    · omega
  · obtain ⟨pt, ct, K, hB, -⟩ := hb
    exact (hB.turn k e).2

section
variable (b bb : Nat) (T : List Tok) (D n : Nat)
variable (hT : T.length ≤ 40000) (hS : Short T) (hE : EndT T)
include hT hS hE

/-- What take does: at the end too. -/
def TPost (b bb : Nat) (T : List Tok) (D n : Nat) (s : St) (N : List Nd) (vn : Value) (A : Nat → Prop) (w : World) (e : Ending) (w' : World) : Prop :=
  ∃ vn' : Value, e = .returned (.int .i64 (N.length : Int)) ∧ XAt w' b bb T D n (leafT T s).2 (s.i + 1) (N ++ [⟨19, (s.i : Int), []⟩]) vn' A ∧ Step b bb vn w vn' w'

set_option maxRecDepth 100000 in
set_option maxHeartbeats 4000000 in
theorem take_c (s : St) (N : List Nd) (vn : Value) (A : Nat → Prop) (w : World) (h : XAt w b bb T D n s s.i N vn A) :
    Calls Tryz.prog 81 #[.pointer (some ⟨b, 0, none⟩)] w (TPost b bb T D n s N vn A w) := by
  obtain ⟨d0, d1, d2, d3, d4, d5, d6, d7, d8, d9, d10⟩ := cells10 h.box
  have hfew := h.few
  have hok := h.ok
  have HL := Lib.hid (Leaf_far A bb T s.i N vn w (by omega) hok (by omega) h.bld)
  have htok : T[s.i]? = some (tokQ T s) := by unfold tokQ; rw [List.getElem?_eq_getElem hok]; rfl
  have hend := hE _ _ htok
  have hi : (leafT T s).2.i = min (s.i + 1) (T.length - 1) ∧ (leafT T s).2.inn = s.inn ∧ (leafT T s).2.e = s.e ∧ (leafT T s).2.pos = s.pos := by
    show (leafQ T s).2.i = _ ∧ (leafQ T s).2.inn = _ ∧ (leafQ T s).2.e = _ ∧ (leafQ T s).2.pos = _
    unfold leafQ
    by_cases h5 : (tokQ T s).kind = 5
    · rw [if_pos h5]
      have := hend.1 h5
      exact ⟨by show s.i = _; omega, rfl, rfl, rfl⟩
    · rw [if_neg h5]
      have : s.i + 1 ≠ T.length := fun e => h5 (hend.2 e)
      exact ⟨by show s.i + 1 = _; omega, rfl, rfl, rfl⟩
  obtain ⟨s', hs'⟩ : ∃ s', (leafT T s).2 = s' := ⟨_, rfl⟩
  rw [hs'] at hi
  have ht' : T[min (s.i + 1) (T.length - 1)]? = some (tokQ T s') := by
    rw [← hi.1]; unfold tokQ; rw [List.getElem?_eq_getElem (by rw [hi.1]; omega)]; rfl
  have HPK := Lib.hid (fun (N' : List Nd) (vn' : Value) (w1 : World) (hb : BldV w1 bb T (s.i + 1) N' vn') => Peek_c bb T (s.i + 1) N' vn' (tokQ T s') w1 (by omega) (by omega) hS ht' hb)
  have HX := Lib.hid h
  have hle : N.length + 1 ≤ 2 * (s.i + 1) := by omega
  have HLE := Lib.hid hle
  have HI := Lib.hid hi
  have HSI : Hid (s'.i < T.length) := Lib.hid (by rw [hi.1]; omega)
  have HTP : Hid (TPost b bb T D n s N vn A w = fun e w' => ∃ vn' : Value, e = .returned (.int .i64 (N.length : Int)) ∧ XAt w' b bb T D n s' (s.i + 1) (N ++ [⟨19, (s.i : Int), []⟩]) vn' A ∧ Step b bb vn w vn' w') := Lib.hid (by unfold TPost; rw [hs'])
  rw [HTP.out]
  clear h hfew hok htok hend hs' hi ht' hle hT hS hE HTP
  go_enter Tryz.func81, Tryz.ntmps81
  go_wp2_with fail
  refine HL.out.mono ?_
  rintro e w1 ⟨rfl, vn1, hb1, hf1, ho1⟩
  obtain ⟨hx1, hst1⟩ := HX.out.bump hb1 hf1 ho1 (by rw [List.length_append]; exact HLE.out)
  have HX1 := Lib.hid hx1; have HST1 := Lib.hid hst1
  obtain ⟨d0, d1, d2, d3, d4, d5, d6, d7, d8, d9, d10⟩ := cells10 hx1.box
  clear hb1 hf1 ho1 hx1 hst1 HL
  go_wp2_with fail
  refine (HPK.out _ _ _ HX1.out.bld.bld).mono ?_
  rintro e w2 ⟨rfl, hg2⟩
  have HX2 := Lib.hid (HX1.out.kept hg2); have HST2 := Lib.hid (HST1.out.trans (Step.of (b := b) (bb := bb) (vn := vn1) hg2))
  obtain ⟨d0, d1, d2, d3, d4, d5, d6, d7, d8, d9, d10⟩ := cells10 HX2.out.box
  clear hg2 HPK
  have HB2 := Lib.hid (fun (v1 v2 v3 v4 : Value) => set_cells (i := 4) (u := v4) (set_cells (i := 3) (u := v3) (set_cells (i := 2) (u := v2) (set_cells (i := 1) (u := v1) HX2.out.box))))
  obtain ⟨t, ht⟩ : ∃ t, tokQ T s' = t := ⟨_, rfl⟩
  have HTK := Lib.hid ht
  rw [ht]
  unfold tokA strV
  obtain ⟨xl, hxl⟩ : ∃ xl : ByteArray, (⟨t.lead.toArray⟩ : ByteArray) = xl := ⟨_, rfl⟩
  obtain ⟨xt, hxt⟩ : ∃ xt : ByteArray, (⟨t.text.toArray⟩ : ByteArray) = xt := ⟨_, rfl⟩
  have HXL := Lib.hid hxl; have HXT := Lib.hid hxt
  rw [hxl, hxt]
  obtain ⟨tk, htk⟩ : ∃ tk, t.kind = tk := ⟨_, rfl⟩
  obtain ⟨tp, htp⟩ : ∃ tp, t.pos = tp := ⟨_, rfl⟩
  have HKI := Lib.hid htk; have HPO := Lib.hid htp
  rw [htk, htp]
  clear ht hxl hxt htk htp
  go_wp2_with fail
  go_ret
  have hf : Fr2 (Self b) w2 ((((w2.setCell ⟨b, 1, none⟩ (.int .i64 (tk : Int))).setCell ⟨b, 2, none⟩ (.string xl)).setCell ⟨b, 3, none⟩ (.string xt)).setCell ⟨b, 4, none⟩ (.int .i64 (tp : Int))) := ((((Fr2.refl _ _).setCell (mine b) _).setCell (mine b) _).setCell (mine b) _).setCell (mine b) _
  refine ⟨vn1, rfl, HX2.out.turn hf ((HB2.out _ _ _ _).trans ?_) HSI.out, HST2.out.trans (Step.self hf)⟩
  rw [HTK.out, HI.out.2.1, HI.out.2.2.1, HI.out.2.2.2]
  unfold strV
  rw [HXL.out, HXT.out, HKI.out, HPO.out]
  rfl

/-- What take does ahead of the end. -/
theorem take_i (s : St) (N : List Nd) (vn : Value) (A : Nat → Prop) (w : World) (hk : (tokQ T s).kind ≠ 5) (he : s.e = 0) (h : XAt w b bb T D n s s.i N vn A) :
    Calls Tryz.prog 81 #[.pointer (some ⟨b, 0, none⟩)] w (IPost b bb T D n 1 s (leafT T s) N vn A w) := by
  refine (take_c b bb T D n hT hS hE s N vn A w h).mono ?_
  rintro e w' ⟨vn', rfl, h1, h2⟩
  exact ⟨_, _, vn', rfl, by rw [leaf_i hk]; exact h1, h2, OutD.leaf hk he, fun h => absurd he h⟩

/-- One of some texts must come. -/
def musT (T : List Tok) (ws : List (List UInt8)) (s : St) : RT := if atQ T ws s = true then leafT T s else ([], failQ T 22 s)
/-- No token that reads as a key or sign stands at the end. -/
def KeysT (T : List Tok) (ws : List (List UInt8)) : Prop := ∀ s, atQ T ws s = true → (tokQ T s).kind ≠ 5 ∧ s.e = 0

set_option maxRecDepth 100000 in
set_option maxHeartbeats 4000000 in
theorem one_c (ws : List (List UInt8)) (hn : ws.length ≤ 100) (hk : KeysT T ws) (s : St) (N : List Nd) (vn v : Value) (A : Nat → Prop) (w : World) (h : XAt w b bb T D n s s.i N vn A) (hv : StrsAt w v ws) :
    Calls Tryz.prog 80 #[.pointer (some ⟨b, 0, none⟩), v] w (IPost b bb T D n 1 s (musT T ws s) N vn A w) := by
  have HA := Lib.hid (at_c b bb T D n s s.i N vn v A ws w hn h hv)
  have HF := Lib.hid (fun w h => pfail_c b bb T D n 22 s s.i N vn A w h)
  have HX := Lib.hid h
  obtain ⟨a, ha⟩ : ∃ a, atQ T ws s = a := ⟨_, rfl⟩
  have HV := Lib.hid ha
  have HTK := Lib.hid (fun w (hh : atQ T ws s = true) h => take_i b bb T D n hT hS hE s N vn A w (hk s hh).1 (hk s hh).2 h)
  rw [ha] at HA
  clear h hv hn hk ha hT hS hE
  go_enter Tryz.func80, Tryz.ntmps80
  go_wp2_with fail
  refine HA.out.mono ?_
  rintro e w1 ⟨rfl, hg⟩
  have HX1 := Lib.hid (HX.out.kept hg); have HG := Lib.hid hg
  clear hg HA
  cases a
  · go_wp2_with fail
    refine (HF.out _ HX1.out).mono ?_
    rintro e w2 ⟨rfl, h2, st2⟩
    have HZ : Hid (IPost b bb T D n 1 s (musT T ws s) N vn A w (.returned (.int .i64 (-1))) w2) := Lib.hid (by
      have e : musT T ws s = ([], failQ T 22 s) := by unfold musT; rw [if_neg (by rw [HV.out]; decide)]
      rw [e]
      refine ⟨-1, N, vn, rfl, ?_, (Step.of HG.out).trans st2, OutD.fail (by decide) [], fun h => by show (failQ T 22 s).e ≠ 0; rw [fail_same T h]; exact h⟩
      show XAt w2 b bb T D n (failQ T 22 s) (failQ T 22 s).i N vn A
      rw [fail_i]; exact h2)
    clear h2 st2
    go_wp2_with fail
    go_ret
    exact HZ.out
  · go_wp2_with fail
    refine (HTK.out _ HV.out HX1.out).mono ?_
    rintro e w2 hp
    have HZ : Hid (IPost b bb T D n 1 s (musT T ws s) N vn A w e w2) := Lib.hid (by
      have e : musT T ws s = leafT T s := by unfold musT; rw [if_pos HV.out]
      rw [e]
      exact hp.after (Step.of HG.out))
    obtain ⟨v, N', vn', rfl, -⟩ := hp
    go_wp2_with fail
    go_ret
    exact HZ.out

set_option maxRecDepth 100000 in
set_option maxHeartbeats 4000000 in
theorem oneOf_c (k : Nat) (hk : k ≠ 5) (s : St) (N : List Nd) (vn : Value) (A : Nat → Prop) (w : World) (h : XAt w b bb T D n s s.i N vn A) :
    Calls Tryz.prog 53 #[.pointer (some ⟨b, 0, none⟩), .int .i64 (k : Int)] w (IPost b bb T D n 1 s (kindT T k s) N vn A w) := by
  have HA := Lib.hid (atKind_c b bb T D n s s.i N vn A k w h)
  have HF := Lib.hid (fun w h => pfail_c b bb T D n 22 s s.i N vn A w h)
  have HX := Lib.hid h
  have HKT : Hid (kindT T k s = if s.e = 0 ∧ (tokQ T s).kind = k then leafT T s else ([], failQ T 22 s)) := Lib.hid rfl
  have HTK := Lib.hid (fun w (hh : s.e = 0 ∧ (tokQ T s).kind = k) h => take_i b bb T D n hT hS hE s N vn A w (by rw [hh.2]; exact hk) hh.1 h)
  clear h hk hT hS hE
  by_cases hc : s.e = 0 ∧ (tokQ T s).kind = k
  · rw [decide_eq_true hc] at HA
    rw [if_pos hc] at HKT
    have HC := Lib.hid hc
    rw [HKT.out]
    clear hc
    go_enter Tryz.func53, Tryz.ntmps53
    go_wp2_with fail
    refine HA.out.mono ?_
    rintro e w1 ⟨rfl, hg⟩
    have HX1 := Lib.hid (HX.out.kept hg); have HG := Lib.hid hg
    clear hg HA
    go_wp2_with fail
    refine (HTK.out _ HC.out HX1.out).mono ?_
    rintro e w2 hp
    have HZ := Lib.hid (hp.after (Step.of HG.out))
    obtain ⟨v, N', vn', rfl, -⟩ := hp
    go_wp2_with fail
    go_ret
    exact HZ.out
  · rw [decide_eq_false hc] at HA
    rw [if_neg hc] at HKT
    rw [HKT.out]
    clear hc
    go_enter Tryz.func53, Tryz.ntmps53
    go_wp2_with fail
    refine HA.out.mono ?_
    rintro e w1 ⟨rfl, hg⟩
    have HX1 := Lib.hid (HX.out.kept hg); have HG := Lib.hid hg
    clear hg HA
    go_wp2_with fail
    refine (HF.out _ HX1.out).mono ?_
    rintro e w2 ⟨rfl, h2, st2⟩
    have HZ : Hid (IPost b bb T D n 1 s ([], failQ T 22 s) N vn A w (.returned (.int .i64 (-1))) w2) := Lib.hid (by
      refine ⟨-1, N, vn, rfl, ?_, (Step.of HG.out).trans st2, OutD.fail (by decide) [], fun h => by show (failQ T 22 s).e ≠ 0; rw [fail_same T h]; exact h⟩
      show XAt w2 b bb T D n (failQ T 22 s) (failQ T 22 s).i N vn A
      rw [fail_i]; exact h2)
    clear h2 st2
    go_wp2_with fail
    go_ret
    exact HZ.out
end
end Go.Proofs.YtoahgeleenpnjaaGreatDoor
namespace Go.Proofs.YtoahgeleenpnjaaGreatDoor
open Go.RowKit

inductive Th where
  | strs (ws : List (List UInt8))
  | ints (l : List Int)
  | box (x : Value)
def ThAt (w : World) (b : Nat) (v : Value) : Th → Prop
  | .strs ws => StrsAt w v ws
  | .ints l => OwnL w (b + 1) v l
  | .box x => ∃ g, v = .slice (some ⟨g, 0, none⟩) 1 1 ∧ w.cell? ⟨g, 0, none⟩ = some x

def Apart (w0 w : World) (b : Nat) (vn : Value) (A : Nat → Prop) (p : Value × Th) : Prop :=
  ThAt w b p.1 p.2 ∧ ∀ k, p.1.ownBlock = some k → w0.heap.size ≤ k ∧ b < k ∧ k < w.heap.size ∧ vn.ownBlock ≠ some k ∧ ¬ A k
def Sepp (p q : Value × Th) : Prop := ∀ k, p.1.ownBlock = some k → q.1.ownBlock ≠ some k
/-- From w0 to w, where vn0 and A0 were at first. -/
def KX (b bb : Nat) (T : List Tok) (D n : Nat) (A0 : Nat → Prop) (vn0 : Value) (w0 w : World) (s : St) (u : Nat) (N : List Nd) (vn : Value) (L : List (Value × Th)) : Prop :=
  ∃ A : Nat → Prop, XAt w b bb T D n s u N vn A ∧ (∀ j, A j → A0 j) ∧ (∀ p ∈ L, Apart w0 w b vn A p) ∧ Step b bb vn0 w0 vn w ∧ (∀ k, A0 k → b < k) ∧ (∀ k, w0.heap.size ≤ k → A0 k) ∧ b < w0.heap.size ∧ L.Pairwise Sepp

theorem ThAt.keptF {S : Nat → Prop} {w w' : World} {b : Nat} {v : Value} {t : Th} (h : ThAt w b v t) (hf : Fr2 S w w') (hk : ∀ k, v.ownBlock = some k → k < w.heap.size ∧ ¬ S k) : ThAt w' b v t := by
  cases t with
  | strs ws =>
    obtain ⟨g, e, hc⟩ := h
    have h1 := hk g (by rw [e]; rfl)
    exact ⟨g, e, fun j x hx => (World.cell?_of_block (a := ⟨g, j, none⟩) (hf.block g h1.1 h1.2)).trans (hc j x hx)⟩
  | ints l => exact OwnG.keptF h hf fun k e => (hk k e).2
  | box x =>
    obtain ⟨g, e, hc⟩ := h
    have h1 := hk g (by rw [e]; rfl)
    exact ⟨g, e, (World.cell?_of_block (a := ⟨g, 0, none⟩) (hf.block g h1.1 h1.2)).trans hc⟩

section
variable {b bb : Nat} {T : List Tok} {D n : Nat} {A0 : Nat → Prop} {vn0 : Value} {w0 w w' : World} {s : St} {u : Nat} {N : List Nd} {vn : Value} {L : List (Value × Th)}
theorem XAt.wide {A A' : Nat → Prop} (h : XAt w b bb T D n s u N vn A) (ha : ∀ j, A j → A' j) (hf : ∀ k, A' k → b < k) (hn : ∀ k, w.heap.size ≤ k → A' k) : XAt w b bb T D n s u N vn A' := by
  obtain ⟨pt, ct, K, hB, hK⟩ := h.bld
  exact ⟨h.box, ⟨pt, ct, K, hB, fun i x hx hn a ha' => ha _ (hK i x hx hn a ha')⟩, hf, hn, h.lt, h.own, h.ok, h.few⟩
theorem KX.start {A : Nat → Prop} (h : XAt w b bb T D n s u N vn A) : KX b bb T D n A vn w w s u N vn [] :=
  ⟨A, h, fun _ h => h, fun p hp => by simp at hp, Step.refl _ _ _ _, h.far, h.new, h.lt', List.Pairwise.nil⟩
theorem KX.done (h : KX b bb T D n A0 vn0 w0 w s u N vn L) : XAt w b bb T D n s u N vn A0 ∧ Step b bb vn0 w0 vn w := by
  obtain ⟨A, h1, h2, -, h4, h5, h6, -⟩ := h
  exact ⟨h1.wide h2 h5 fun k hk => h6 k (Nat.le_trans h4.fr.size hk), h4⟩
theorem KX.kept (h : KX b bb T D n A0 vn0 w0 w s u N vn L) (hg : w.grownBy w' none) : KX b bb T D n A0 vn0 w0 w' s u N vn L := by
  obtain ⟨A, h1, h2, h3, h4, h5, h6, h7⟩ := h
  refine ⟨A, h1.kept hg, h2, fun p hp => ?_, h4.trans (Step.of hg), h5, h6, h7⟩
  obtain ⟨t, k⟩ := h3 p hp
  exact ⟨t.keptF (S := fun _ => False) (Fr2.none hg) fun j e => ⟨(k j e).2.2.1, fun h => h⟩, fun j e => ⟨(k j e).1, (k j e).2.1, Nat.lt_of_lt_of_le (k j e).2.2.1 hg.size, (k j e).2.2.2⟩⟩
theorem KX.drew (h : KX b bb T D n A0 vn0 w0 w s u N vn L) : KX b bb T D n A0 vn0 w0 w.drew s u N vn L := h.kept (gb_drew (gb_refl _ _))
theorem KX.alloc (h : KX b bb T D n A0 vn0 w0 w s u N vn L) (o : Obj) : KX b bb T D n A0 vn0 w0 (w.alloc o) s u N vn L := h.kept (gb_alloc (gb_refl _ _) _)
theorem KX.few (h : KX b bb T D n A0 vn0 w0 w s u N vn L) {L' : List (Value × Th)} (hl : L'.Sublist L) : KX b bb T D n A0 vn0 w0 w s u N vn L' := by
  obtain ⟨A, h1, h2, h3, h4, h5, h6, h7, h8⟩ := h
  exact ⟨A, h1, h2, fun p hp => h3 p (hl.subset hp), h4, h5, h6, h7, h8.sublist hl⟩
theorem KX.nils (h : KX b bb T D n A0 vn0 w0 w s u N vn L) : KX b bb T D n A0 vn0 w0 w s u N vn [] := h.few (List.nil_sublist _)
theorem KX.innc (h : KX b bb T D n A0 vn0 w0 w s u N vn L) : w.cell? ⟨b, 7, none⟩ = some (.bool s.inn) := by
  obtain ⟨A, h1, -⟩ := h
  exact (cells10 h1.box).2.2.2.2.2.2.2.1
theorem KX.cell (h : KX b bb T D n A0 vn0 w0 w s u N vn L) : w.cell? ⟨b, 0, none⟩ = some (.pointer (some ⟨bb, 0, none⟩)) := by
  obtain ⟨A, h1, -⟩ := h
  exact (cells10 h1.box).1
theorem KX.ok (h : KX b bb T D n A0 vn0 w0 w s u N vn L) : s.i < T.length := by
  obtain ⟨A, h1, -⟩ := h
  exact h1.ok

/-- A block of one's own is new. -/
theorem KX.fresh (h : KX b bb T D n A0 vn0 w0 w s u N vn L) {o : Obj} {v : Value} {t : Th} (ht : ThAt (w.alloc o) b v t) (hv : v.ownBlock = some w.heap.size) : KX b bb T D n A0 vn0 w0 (w.alloc o) s u N vn ((v, t) :: L) := by
  obtain ⟨A, h1, h2, h3, h4, h5, h6, h7, h8⟩ := h
  have hb := h1.lt'
  have hs : (w.alloc o).heap.size = w.heap.size + 1 := by simp
  have hg := World.grownBy_alloc w o none
  have h0 := h4.fr.size
  have hx := h1.kept hg
  refine ⟨fun j => A j ∧ j ≠ w.heap.size, ⟨hx.box, h1.bld.keptF (S := fun _ => False) (Fr2.none hg) (fun _ _ h => h) (fun _ _ h => h) (fun _ _ h => h) (fun k hk ha => ⟨ha, by omega⟩), fun k hk => h1.far k hk.1, fun k hk => ⟨h1.new k (by omega), by omega⟩, hx.lt, hx.own, hx.ok, hx.few⟩, fun j hj => h2 j hj.1, fun p hp => ?_, h4.trans (Step.of hg), h5, h6, h7, List.pairwise_cons.2 ⟨fun p hp k e e2 => ?_, h8⟩⟩
  · rcases List.mem_cons.1 hp with rfl | hp
    · refine ⟨ht, fun k e => ?_⟩
      have hk : w.heap.size = k := by rw [hv] at e; exact Option.some.inj e
      subst hk
      exact ⟨h0, hb, by omega, fun e2 => by have := (h1.own _ e2).2; omega, fun hA => hA.2 rfl⟩
    · obtain ⟨t, k⟩ := h3 p hp
      exact ⟨t.keptF (S := fun _ => False) (Fr2.none hg) fun j e => ⟨(k j e).2.2.1, fun h => h⟩, fun j e => ⟨(k j e).1, (k j e).2.1, by have := (k j e).2.2.1; omega, (k j e).2.2.2.1, fun hA => (k j e).2.2.2.2 hA.1⟩⟩
  · have hk : w.heap.size = k := by rw [hv] at e; exact Option.some.inj e
    have := ((h3 p hp).2 k e2).2.2.1
    omega

theorem KX.strs (h : KX b bb T D n A0 vn0 w0 w s u N vn L) (xs : List ByteArray) (ty : TypeId) : KX b bb T D n A0 vn0 w0 (w.alloc (.cells (xs.map Value.string).toArray ty)) s u N vn ((.slice (some ⟨w.heap.size, 0, none⟩) xs.length xs.length, .strs (xs.map fun x => x.data.toList)) :: L) := by
  refine h.fresh ⟨w.heap.size, by simp, fun j x hx => ?_⟩ rfl
  rw [cell_of_row _ _ j _ _ (0, 0) (heap_alloc_new w _)]
  rw [List.getElem?_map] at hx
  rw [List.getElem?_toArray, List.getElem?_map]
  cases hq : xs[j]? with
  | none => rw [hq] at hx; cases hx
  | some y =>
    rw [hq] at hx
    obtain rfl : y.data.toList = x := Option.some.inj hx
    rfl
theorem KX.strs1 (h : KX b bb T D n A0 vn0 w0 w s u N vn L) (x : ByteArray) (ty : TypeId) : KX b bb T D n A0 vn0 w0 (w.alloc (.cells #[.string x] ty)) s u N vn ((.slice (some ⟨w.heap.size, 0, none⟩) 1 1, .strs [x.data.toList]) :: L) := h.strs [x] ty
theorem KX.strs2 (h : KX b bb T D n A0 vn0 w0 w s u N vn L) (x y : ByteArray) (ty : TypeId) : KX b bb T D n A0 vn0 w0 (w.alloc (.cells #[.string x, .string y] ty)) s u N vn ((.slice (some ⟨w.heap.size, 0, none⟩) 2 2, .strs [x.data.toList, y.data.toList]) :: L) := h.strs [x, y] ty
theorem KX.boxed (h : KX b bb T D n A0 vn0 w0 w s u N vn L) (x : Value) (ty : TypeId) : KX b bb T D n A0 vn0 w0 (w.alloc (.cells #[x] ty)) s u N vn ((.slice (some ⟨w.heap.size, 0, none⟩) 1 1, .box x) :: L) :=
  h.fresh ⟨w.heap.size, rfl, by rw [cell_of_row _ _ 0 _ _ (0, 0) (heap_alloc_new w _)]; rfl⟩ rfl
theorem KX.nilS (h : KX b bb T D n A0 vn0 w0 w s u N vn L) : KX b bb T D n A0 vn0 w0 w s u N vn ((.slice none 0 0, .ints []) :: L) := by
  obtain ⟨A, h1, h2, h3, h4, h5, h6, h7, h8⟩ := h
  refine ⟨A, h1, h2, fun p hp => ?_, h4, h5, h6, h7, List.pairwise_cons.2 ⟨fun p hp k e => (by cases e), h8⟩⟩
  rcases List.mem_cons.1 hp with rfl | hp
  · exact ⟨OwnL.nil _ _, fun k e => by cases e⟩
  · exact h3 p hp

theorem OwnL.newL (w : World) (base : Nat) (vs : List Int) (h0 : vs ≠ []) (hl : vs.length ≤ 1000000) (hb : base ≤ w.heap.size) : OwnL (w.alloc (.cells (intsV vs).toArray 3)) base (.slice (some ⟨w.heap.size, 0, none⟩) vs.length vs.length) vs := by
  refine ⟨?_, one_wid (intsV_one _)⟩
  rw [one_len, one_flat, intsV_len]
  exact ⟨by simp [intsV], .inr ⟨_, vs.length, _, rfl, hb, heap_alloc_new w _, by simp, by unfold maxLen; omega, by simp [intsV], by rw [List.take_of_length_le (by simp [intsV])]⟩⟩
theorem KX.ints (h : KX b bb T D n A0 vn0 w0 w s u N vn L) (vs : List Int) (h0 : vs ≠ []) (hl : vs.length ≤ 1000000) : KX b bb T D n A0 vn0 w0 (w.alloc (.cells (intsV vs).toArray 3)) s u N vn ((.slice (some ⟨w.heap.size, 0, none⟩) vs.length vs.length, .ints vs) :: L) := by
  refine h.fresh (OwnL.newL w (b + 1) vs h0 hl ?_) rfl
  obtain ⟨A, h1, -⟩ := h
  exact h1.lt'

/-- A call of the parser's own. -/
theorem KX.go {A : Nat → Prop} {s' : St} {u' : Nat} {N' : List Nd} {vn' : Value} (h2 : ∀ j, A j → A0 j) (h3 : ∀ p ∈ L, Apart w0 w b vn A p) (h4 : Step b bb vn0 w0 vn w) (h5 : (∀ k, A0 k → b < k) ∧ (∀ k, w0.heap.size ≤ k → A0 k) ∧ b < w0.heap.size ∧ L.Pairwise Sepp) (hbb : bb < b) (hx : XAt w' b bb T D n s' u' N' vn' A) (hs : Step b bb vn w vn' w') : KX b bb T D n A0 vn0 w0 w' s' u' N' vn' L := by
  refine ⟨A, hx, h2, fun p hp => ?_, h4.trans hs, h5⟩
  obtain ⟨t, k⟩ := h3 p hp
  refine ⟨t.keptF hs.fr fun j e => ?_, fun j e => ?_⟩
  · obtain ⟨k1, k2, k3, k4, -⟩ := k j e
    exact ⟨k3, fun h => by rcases h with h | h | h; omega; omega; exact k4 h⟩
  · obtain ⟨k1, k2, k3, k4, k5⟩ := k j e
    refine ⟨k1, k2, Nat.lt_of_lt_of_le k3 hs.fr.size, fun h => ?_, k5⟩
    rcases hs.own j h with h | h
    · exact k4 h
    · omega
theorem KX.call {P : Program} {f k : Nat} {args : Array Value} {r : RT} (hk : KX b bb T D n A0 vn0 w0 w s s.i N vn L) (C : ∀ A, XAt w b bb T D n s s.i N vn A → Calls P f args w (IPost b bb T D n k s r N vn A w)) :
    Calls P f args w fun e w' => ∃ (v : Int) (N' : List Nd) (vn' : Value), e = .returned (.int .i64 v) ∧ KX b bb T D n A0 vn0 w0 w' r.2 r.2.i N' vn' L ∧ OutD k N s r N' [v] ∧ (s.e ≠ 0 → r.2.e ≠ 0) := by
  obtain ⟨A, h1, h2, h3, h4, h5⟩ := hk
  refine (C A h1).mono ?_
  rintro e w' ⟨v, N', vn', rfl, g1, g2, g3, g4⟩
  exact ⟨v, N', vn', rfl, KX.go h2 h3 h4 h5 h1.lt g1 g2, g3, g4⟩
/-- A call that changes nothing. -/
theorem KX.val {P : Program} {f : Nat} {args : Array Value} {v : Value} (hk : KX b bb T D n A0 vn0 w0 w s u N vn L) (C : ∀ A, XAt w b bb T D n s u N vn A → Calls P f args w (ValPost v w)) :
    Calls P f args w fun e w' => e = .returned v ∧ KX b bb T D n A0 vn0 w0 w' s u N vn L := by
  obtain ⟨A, h1, -⟩ := id hk
  refine (C A h1).mono ?_
  rintro e w' ⟨rfl, hg⟩
  exact ⟨rfl, hk.kept hg⟩
/-- A list of one's own was appended to. -/
theorem KX.appended {v1 v' : Value} {l1 l : List Int} (hk : KX b bb T D n A0 vn0 w0 w s u N vn L) {L2 : List (Value × Th)} (hm : ((v1, Th.ints l1) :: L2).Sublist L) (ho : OwnL w' (b + 1) v' l) (hg : w.grownBy w' v1.ownBlock) (hb : ∀ k, v'.ownBlock = some k → v1.ownBlock = some k ∨ w.heap.size ≤ k) : KX b bb T D n A0 vn0 w0 w' s u N vn ((v', .ints l) :: L2) := by
  obtain ⟨A, h1, h2, h3, h4, h5, h6, h7, h8⟩ := hk
  obtain ⟨-, hk1⟩ := h3 _ (hm.subset (List.mem_cons_self ..))
  obtain ⟨hp1, hp2⟩ := List.pairwise_cons.1 (h8.sublist hm)
  have hf : Fr2 (fun k => v1.ownBlock = some k) w w' := Fr2.of hg (fun k e => e)
  have hat := fun k e => OwnG.at ho k e
  have hlt := h1.lt
  have hbw := h1.lt'
  refine ⟨fun j => A j ∧ v'.ownBlock ≠ some j, ⟨hf.keep h1.box (fun e => by have := (hk1 _ e).2.1; omega), h1.bld.keptF hf (fun k hk e => by have := (hk1 _ e).2.1; omega) (fun k e e2 => (hk1 _ e2).2.2.2.1 e) (fun k ha e => (hk1 _ e).2.2.2.2 ha) (fun k hk ha => ⟨ha, fun e => ?_⟩), fun k hk => h1.far k hk.1, fun k hk => ⟨h1.new k (Nat.le_trans hf.size hk), fun e => by have := (hat k e).2; omega⟩, h1.lt, fun k e => ⟨(h1.own k e).1, Nat.lt_of_lt_of_le (h1.own k e).2 hf.size⟩, h1.ok, h1.few⟩, fun j hj => h2 j hj.1, fun p hp => ?_, ⟨⟨hf.os.trans h4.fr.os, hf.tape.trans h4.fr.tape, hf.output.trans h4.fr.output, Nat.le_trans h4.fr.size hf.size, fun k hk hn => ?_⟩, h4.own⟩, h5, h6, h7, List.pairwise_cons.2 ⟨fun p hp k e e2 => ?_, hp2⟩⟩
  · rcases hb k e with h | h
    · exact (hk1 _ h).2.2.2.2 ha
    · omega
  · rcases List.mem_cons.1 hp with rfl | hp
    rotate_left
    · obtain ⟨t, k⟩ := h3 p (hm.subset (List.mem_cons_of_mem _ hp))
      refine ⟨t.keptF hf fun j e => ⟨(k j e).2.2.1, fun e2 => hp1 p hp j e2 e⟩, fun j e => ⟨(k j e).1, (k j e).2.1, Nat.lt_of_lt_of_le (k j e).2.2.1 hf.size, (k j e).2.2.2.1, fun hA => (k j e).2.2.2.2 hA.1⟩⟩
    refine ⟨ho, fun k e => ⟨?_, ?_, (hat k e).2, fun e2 => ?_, fun hA => hA.2 e⟩⟩
    · rcases hb k e with h | h
      · exact (hk1 _ h).1
      · exact Nat.le_trans h4.fr.size h
    · have := (hat k e).1; omega
    · rcases hb k e with h | h
      · exact (hk1 _ h).2.2.2.1 e2
      · have := (h1.own _ e2).2; omega
  · rw [hf.block k (Nat.lt_of_lt_of_le hk h4.fr.size) (fun e => by have := (hk1 _ e).1; omega), h4.fr.block k hk hn]
  · rcases hb k e with h | h
    · exact hp1 p hp k h e2
    · have := ((h3 p (hm.subset (List.mem_cons_of_mem _ hp))).2 k e2).2.2.1
      omega

theorem KX.list {v : Value} {l : List Int} (hk : KX b bb T D n A0 vn0 w0 w s u N vn L) (hm : (v, Th.ints l) ∈ L) : ∃ p c, v = .slice p l.length c ∧ VAt w p (intsV l) ∧ l.length ≤ c ∧ OwnL w (b + 1) v l := by
  obtain ⟨A, h1, h2, h3, -⟩ := hk
  obtain ⟨ho, -⟩ := h3 _ hm
  obtain ⟨p, c, e1, e2, e3, -⟩ := OwnL.parts ho
  exact ⟨p, c, e1, e2, e3, ho⟩
theorem KX.str {v : Value} {ws : List (List UInt8)} (hk : KX b bb T D n A0 vn0 w0 w s u N vn L) (hm : (v, Th.strs ws) ∈ L) : StrsAt w v ws := by
  obtain ⟨A, h1, h2, h3, -⟩ := hk
  exact (h3 _ hm).1

/-- append of a list of places to one's own. -/
theorem wp_kx {o : Oper} {a : Act} {K : Act → World → Prop} {Q : Exit → Act → World → Prop} (os ox : Operand) (ho : o.op = .call { callee := .builtin .append, args := #[os, ox], argTypes := #[52, 52] })
    {l1 l2 : List Int} {v1 : Value} {q : Option Addr} {m c : Nat} {L2 : List (Value × Th)} (hk : KX b bb T D n A0 vn0 w0 w s u N vn L) (hm : ((v1, Th.ints l1) :: L2).Sublist L) (hs : a.eval os = v1) (hx : a.eval ox = .slice q m c) (hl : l2.length = m) (hy : VAt w q (intsV l2)) (h1 : l1.length ≤ 1000000) (h2 : l2.length ≤ 1000000)
    (h : ∀ v' w', KX b bb T D n A0 vn0 w0 w' s u N vn ((v', .ints (l1 ++ l2)) :: L2) → K (a.put o.dst v') w') : o.wp Tryz.prog a w K Q := by
  obtain ⟨p1, c1, -, -, -, hown⟩ := hk.list (hm.subset (List.mem_cons_self ..))
  have hown2 := hown.1
  rw [one_len, one_flat, intsV_len] at hown2
  obtain ⟨i0, hi, hi0, hi1, hi2⟩ := info_parts info_int
  have hbw : b + 1 ≤ w.heap.size := by
    obtain ⟨A, g1, -⟩ := id hk
    exact g1.lt'
  by_cases h0 : l2 = []
  · subst h0
    obtain rfl : m = 0 := hl.symm
    have hrun := run_append_zero (P := Tryz.prog) (w := w) (b + 1) 52 o.type 3 i0 1 Tryz.underlying52 hi v1 l1.length (intsV l1) hown2 q c
    have h3 := h v1 w (by rw [List.append_nil]; exact hk.few hm)
    unfold Oper.wp
    simp [execOp, ho, resolve, invoke, builtin, hs, hx, hrun, Result.andThen]
    exact h3
  · obtain ⟨g, off, rfl, hg, hc⟩ := hy.resolve_left (fun e => h0 (List.length_eq_zero_iff.1 (by have := congrArg List.length e; rwa [intsV_len] at this)))
    refine wp_append_lies w os ox 52 ho (b + 1) 3 i0 (.int .i64 0) 1 8 Tryz.underlying52 hi hi0 hi1 hi2 rfl (by decide) v1 l1.length (intsV l1) hs hown2 ⟨g, off, none⟩ m c (intsV l2) hx (by rw [intsV_len, hl, Nat.mul_one]) (fun j x hj => by rw [Addr.add_lit]; exact hc j x hj) (intsV_one _) (by rw [← hl]; exact List.length_pos_iff.2 h0) (by unfold maxLen; omega) (by omega) hbw w.heap.size rfl ?_
    intro g' cap' w' k1 k2 k3 k4
    refine h _ _ (hk.appended hm ⟨?_, one_wid (intsV_one _)⟩ k2 (fun k e => ?_))
    · rw [one_len, one_flat, intsV_append, List.length_append, intsV_len, intsV_len, hl]; exact k1
    · have hk' : g' = k := by simpa [Value.ownBlock] using e
      subst hk'
      exact k3.imp id fun h => by omega
theorem wpList_kx {ops : Array Oper} {rest : List Oper} {o : Oper} {a : Act} {Q : Exit → Act → World → Prop} (hgd : o.guard = none) (os ox : Operand) (ho : o.op = .call { callee := .builtin .append, args := #[os, ox], argTypes := #[52, 52] })
    {l1 l2 : List Int} {v1 : Value} {q : Option Addr} {m c : Nat} {L2 : List (Value × Th)} (hk : KX b bb T D n A0 vn0 w0 w s u N vn L) (hm : ((v1, Th.ints l1) :: L2).Sublist L) (hs : a.eval os = v1) (hx : a.eval ox = .slice q m c) (hl : l2.length = m) (hy : VAt w q (intsV l2)) (h1 : l1.length ≤ 1000000) (h2 : l2.length ≤ 1000000)
    (h : ∀ v' w', KX b bb T D n A0 vn0 w0 w' s u N vn ((v', .ints (l1 ++ l2)) :: L2) → wpList Tryz.prog ops Q rest (a.put o.dst v') w') : wpList Tryz.prog ops Q (o :: rest) a w :=
  wpList_plain hgd fun _ hK => wp_kx os ox ho hk hm hs hx hl hy h1 h2 fun v' w' h9 => hK _ _ (h v' w' h9)
theorem step_kx {ops : Array Oper} {o : Oper} {a : Act} {K : Act → World → Prop} {Q : Exit → Act → World → Prop} {E : Prop} (hgd : o.guard = none) (os ox : Operand) (ho : o.op = .call { callee := .builtin .append, args := #[os, ox], argTypes := #[52, 52] })
    {l1 l2 : List Int} {v1 : Value} {q : Option Addr} {m c : Nat} {L2 : List (Value × Th)} (hk : KX b bb T D n A0 vn0 w0 w s u N vn L) (hm : ((v1, Th.ints l1) :: L2).Sublist L) (hs : a.eval os = v1) (hx : a.eval ox = .slice q m c) (hl : l2.length = m) (hy : VAt w q (intsV l2)) (h1 : l1.length ≤ 1000000) (h2 : l2.length ≤ 1000000)
    (h : ∀ v' w', KX b bb T D n A0 vn0 w0 w' s u N vn ((v', .ints (l1 ++ l2)) :: L2) → K (a.put o.dst v') w') : if Region.wanted o (yielded ops a.tmps) = true then Oper.wp Tryz.prog o a w K Q else E := by
  have hw : Region.wanted o (yielded ops a.tmps) = true := by simp [Region.wanted, hgd]
  rw [if_pos hw]
  exact wp_kx os ox ho hk hm hs hx hl hy h1 h2 h

/-- A node of places that lie in a list of one's own. -/
theorem KX.node {k kind : Nat} {v : Value} {vs : List Int} {Ns : List Nd} {s0 : St} {r : RT} (hk : KX b bb T D n A0 vn0 w0 w s s.i N vn L) (hm : (v, Th.ints vs) ∈ L) (hT : T.length ≤ 40000) (hO : OutD (k + 1) Ns s0 r N vs) (hr : r.2 = s) (hN : Ns.length ≤ 2 * s0.i) (hl : vs.length ≤ 30000) :
    Calls Tryz.prog 52 #[.pointer (some ⟨bb, 0, none⟩), .int .i64 (kind : Int), v] w fun e w' => ∃ (x : Int) (N' : List Nd) (vn' : Value), e = .returned (.int .i64 x) ∧ KX b bb T D n A0 vn0 w0 w' s s.i N' vn' L ∧ OutD k Ns s0 ([.nd kind r.1], r.2) N' [x] := by
  obtain ⟨p, c, rfl, hv, -, -⟩ := hk.list hm
  have hk2 := hk
  obtain ⟨A, h1, h2, h3, h4, h5⟩ := hk
  have hfew := h1.few
  have hok := h1.ok
  by_cases he : r.2.e = 0
  · have hO2 := hO.node (kind := kind) he
    have hb := hO2.out.2
    refine (Node_far A bb T s.i N vn (kind : Int) vs p c w (by omega) (by omega) h1.bld h1.new hv (hO.ok he)).mono ?_
    rintro e w' ⟨rfl, vn', g1, g2, g3⟩
    obtain ⟨hx, hst⟩ := h1.bump g1 g2 g3 (by
      rw [← hr]
      have hb2 : (N ++ [(⟨(kind : Int), -1, vs⟩ : Nd)]).length + 2 * s0.i ≤ Ns.length + 2 * r.2.i := hb
      omega)
    exact ⟨_, _, vn', rfl, KX.go h2 h3 h4 h5 h1.lt hx hst, hO2⟩
  · refine (Node_none bb T s.i N vn (kind : Int) vs p c w (by omega) (by omega) h1.bld.bld hv (hO.no he)).mono ?_
    rintro e w' ⟨rfl, hg⟩
    exact ⟨-1, N, vn, rfl, hk2.kept hg, hO.none he⟩
end
end Go.Proofs.YtoahgeleenpnjaaGreatDoor
