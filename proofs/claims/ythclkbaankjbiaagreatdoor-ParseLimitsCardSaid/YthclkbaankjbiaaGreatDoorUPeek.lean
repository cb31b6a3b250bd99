/- Peek; Done. -/
import Derived.Test.YthclkbaankjbiaaGreatDoorM12
namespace Go.Proofs.YthclkbaankjbiaaGreatDoor
open Go.RowKit

def tokA (t : Tok) : Value := .agg #[.int .i64 (t.kind : Int), strV t.lead, strV t.text, .int .i64 (t.pos : Int)]

set_option maxRecDepth 100000 in
set_option maxHeartbeats 8000000 in
theorem Peek_c (b : Nat) (l : List Tok) (u : Nat) (N : List Nd) (vn : Value) (t : Tok) (w : World) (hl : l.length ≤ 100000) (hu : u ≤ l.length) (hs : Short l) (ht : l[min u (l.length - 1)]? = some t) (h : BldV w b l u N vn) :
    Calls Tryz.prog 35 #[.pointer (some ⟨b, 0, none⟩)] w (ValPost (tokA t) w) := by
  obtain ⟨pt, ct, K, h⟩ := h
  have hbox := h.box
  have hpos : 0 < l.length := by have := (List.getElem?_eq_some_iff.1 ht).1; omega
  obtain ⟨hs1, hs2⟩ := hs t (List.mem_of_getElem? ht)
  obtain ⟨g, off, rfl, hgl, hc⟩ := h.toks.resolve_left (fun e => by rw [e] at hpos; simp at hpos)
  obtain ⟨j, hj⟩ : ∃ j, min u (l.length - 1) = j := ⟨_, rfl⟩
  rw [hj] at ht
  obtain ⟨c0, c1, c2, c3⟩ := hc j t ht
  unfold strV at c1 c2
  obtain ⟨x, hx⟩ : ∃ x : ByteArray, (⟨t.lead.toArray⟩ : ByteArray) = x := ⟨_, rfl⟩
  obtain ⟨y, hy⟩ : ∃ y : ByteArray, (⟨t.text.toArray⟩ : ByteArray) = y := ⟨_, rfl⟩
  have hxs : x.size ≤ 1000000 := by rw [← list_len, ← hx]; exact hs1
  have hys : y.size ≤ 1000000 := by rw [← list_len, ← hy]; exact hs2
  have HTA : Hid (tokA t = .agg #[.int .i64 (t.kind : Int), .string x, .string y, .int .i64 (t.pos : Int)]) := Lib.hid (by unfold tokA strV; rw [hx, hy])
  rw [hx] at c1
  rw [hy] at c2
  have HOT := Lib.hid (fun W => ownToken_c (t.kind : Int) (t.pos : Int) x y W hxs hys)
  rw [HTA.out]
  generalize (t.kind : Int) = tk at *
  generalize (t.pos : Int) = tp at *
  have hjl := (List.getElem?_eq_some_iff.1 ht).1
  obtain ⟨m, hm⟩ : ∃ m, l.length = m := ⟨_, rfl⟩
  rw [hm] at hbox hl hu hj hpos hjl
  obtain ⟨m1, hm1⟩ : ∃ m1, m - 1 = m1 := ⟨_, rfl⟩
  rw [hm1] at hj
  have hw1 : IntKind.i64.wrap ((m : Int) - 1) = (m1 : Int) := by rw [IntWalk.i64_in _ (by omega)]; omega
  have hmin : min (u : Int) (m1 : Int) = (j : Int) := by omega
  have e1 : ((m : Int) == 0) = false := beq_eq_false_iff_ne.2 (by omega)
  have e2 : (m == 0) = false := beq_eq_false_iff_ne.2 (by omega)
  obtain ⟨d0, d1, d2, d3⟩ := cells3' hbox
  have hbw := hlt' hbox
  have HBX := Lib.hid hbox
  clear hbox hm h hc hx hy hxs hys hs1 hs2 ht hm1 hs HTA
  go_enter Tryz.func35, Tryz.ntmps35
  go_wp2_with fail
  have hR := heap_alloc_new w (.cells #[.int .i64 0, .string ⟨#[]⟩, .string ⟨#[]⟩, .int .i64 0] 72)
  have hgR := World.grownBy_alloc w (.cells #[.int .i64 0, .string ⟨#[]⟩, .string ⟨#[]⟩, .int .i64 0] 72) none
  have c0 := hgR.cell c0 (by simp)
  have c1 := hgR.cell c1 (by simp)
  have c2 := hgR.cell c2 (by simp)
  have c3 := hgR.cell c3 (by simp)
  obtain ⟨d0, d1, d2, d3⟩ := cells3' (bx hgR HBX.out)
  generalize (w.alloc (.cells #[.int .i64 0, .string ⟨#[]⟩, .string ⟨#[]⟩, .int .i64 0] 72)) = W at *
  obtain ⟨B, hB⟩ : ∃ B, w.heap.size = B := ⟨_, rfl⟩
  have HBW := Lib.hid hB
  rw [hB] at hR ⊢
  have HR := Lib.hid hR; have HGR := Lib.hid hgR
  clear hR hgR hB
  go_region_with (go_at_call 64; refine (HOT.out _).mono ?_; rintro e w2 ⟨rfl, hg2⟩; have hr2 := bx hg2 HR.out; obtain ⟨f0, f1, f2, f3, f4⟩ := cells4' hr2; have HR2 := Lib.hid hr2; have HG2 := Lib.hid (gb_trans (show W.grownBy _ none from (by repeat (first | with_reducible exact gb_refl _ _ | with_reducible refine gb_drew ?_))) hg2); clear hg2 hr2)
  all_goals
    have HR3 := Lib.hid (set_cells (i := 3) (u := .int .i64 tp) (set_cells (i := 2) (u := .string y) (set_cells (i := 1) (u := .string x) (set_cells (i := 0) (u := .int .i64 tk) HR2.out))))
    have HF3 := Lib.hid ((((Fr2.setCell (S := fun k => k = B) (Fr2.refl _ w2) (g := B) (j := 0) rfl (.int .i64 tk)).setCell (g := B) (j := 1) rfl (.string x)).setCell (g := B) (j := 2) rfl (.string y)).setCell (g := B) (j := 3) rfl (.int .i64 tp))
    clear f0 f1 f2 f3 f4 d0 d1 d2 d3 c0 c1 c2 c3
    go_wp2_with fail
    obtain ⟨k0, k1, k2, k3, -⟩ := cells4' HR3.out
    refine bodyPost_ret (v := .agg #[.int .i64 tk, .string x, .string y, .int .i64 tp]) (by simp [results, Tryz.results35, go_sem, k0, k1, k2, k3]) rfl ⟨rfl, Fr2.after (gb_trans HGR.out HG2.out) HF3.out (fun j hj => by rw [HBW.out]; omega)⟩

/-! ### Done -/

/-- Nodes of one's own: their row, and their kids elsewhere. -/
structure Nown (w : World) (base : Nat) (vn : Value) (N : List Nd) (K : Kf) : Prop where
  own : OwnG 3 39 w base vn (ndsV K N)
  kids : KidsAt w N K
  khi : ∀ (i : Nat) (x : Nd), N[i]? = some x → x.kids ≠ [] → ∀ a, (K i).1 = some a → base ≤ a.block ∧ a.block < w.heap.size ∧ vn.ownBlock ≠ some a.block

theorem Nown.kept {w w' : World} {base : Nat} {vn : Value} {N : List Nd} {K : Kf} (h : Nown w base vn N K) (hg : w.grownBy w' none) : Nown w' base vn N K :=
  ⟨h.own.kept hg, fun i x hx => (h.kids i x hx).kept hg, fun i x hx hn a ha => by
    obtain ⟨h1, h2, h3⟩ := h.khi i x hx hn a ha
    exact ⟨h1, Nat.lt_of_lt_of_le h2 hg.size, h3⟩⟩

theorem Nown.add {w w5 : World} {base : Nat} {vn : Value} {N : List Nd} {K : Kf} (h : Nown w base vn N K) (hf : w.grownBy w5 vn.ownBlock) {g9 n9 cap9 : Nat} {x : Nd} {p : Option Addr} {c : Nat}
    (hown : OwnG 3 39 w5 base (.slice (some ⟨g9, 0, none⟩) n9 cap9) (ndsV K N ++ [[.int .i64 x.kind, .int .i64 x.tok, .slice p x.kids.length c]])) (hk : VAt w p (intsV x.kids)) (hkb : x.kids ≠ [] → ∀ a, p = some a → base ≤ a.block ∧ vn.ownBlock ≠ some a.block)
    (hl9 : vn.ownBlock = some g9 ∨ w.heap.size ≤ g9) : ∃ K', Nown w5 base (.slice (some ⟨g9, 0, none⟩) n9 cap9) (N ++ [x]) K' := by
  obtain ⟨K', hK1, hK2⟩ := kf_snoc K N.length p c
  have hf2 : Fr2 (fun k => vn.ownBlock = some k) w w5 := Fr2.of hf (fun k e => e)
  have hkn : ∀ (i : Nat) (y : Nd), (N ++ [x])[i]? = some y → (i < N.length ∧ N[i]? = some y ∧ K' i = K i) ∨ (i = N.length ∧ y = x ∧ K' i = (p, c)) := fun i y hy => by
    by_cases hi : i < N.length
    · rw [List.getElem?_append_left hi] at hy; exact .inl ⟨hi, hy, hK2 i (by omega)⟩
    · have h1 := (List.getElem?_eq_some_iff.1 hy).1
      rw [List.length_append, List.length_singleton] at h1
      obtain rfl : i = N.length := by omega
      rw [List.getElem?_append_right (Nat.le_refl _)] at hy
      simp at hy
      exact .inr ⟨rfl, hy.symm, hK1⟩
  have hx9 : ∀ k, (Value.slice (some ⟨g9, 0, none⟩) n9 cap9).ownBlock = some k → g9 = k := fun k e => by simpa [Value.ownBlock] using e
  refine ⟨K', by rw [ndsV_snoc hK1 hK2]; exact hown, fun i y hy => ?_, fun i y hy hn a ha => ?_⟩
  · rcases hkn i y hy with ⟨-, hy, e⟩ | ⟨-, rfl, e⟩
    · rw [e]
      exact (h.kids i y hy).keptF hf2 fun h0 a ha => (h.khi i y hy (intsV_ne h0) a ha).2.2
    · rw [e]
      exact hk.keptF hf2 fun h0 a ha => (hkb (intsV_ne h0) a ha).2
  · rcases hkn i y hy with ⟨-, hy, e⟩ | ⟨-, rfl, e⟩
    · rw [e] at ha
      obtain ⟨h1, h2, h3⟩ := h.khi i y hy hn a ha
      refine ⟨h1, Nat.lt_of_lt_of_le h2 hf2.size, fun e9 => ?_⟩
      have := hx9 _ e9
      subst this
      rcases hl9 with h | h
      · exact h3 h
      · omega
    · rw [e] at ha
      obtain ⟨h1, h3⟩ := hkb hn a ha
      have h2 := hk.lt (ne_intsV hn) a ha
      refine ⟨h1, Nat.lt_of_lt_of_le h2 hf2.size, fun e9 => ?_⟩
      have := hx9 _ e9
      subst this
      rcases hl9 with h | h
      · exact h3 h
      · omega

def DonePost (l : List Tok) (N : List Nd) (w : World) (e : Ending) (w' : World) : Prop :=
  w.grownBy w' none ∧ ∃ pt ct pn cn K, e = .returned (.agg #[.slice pt l.length ct, .slice pn N.length cn]) ∧ TAt w' pt l ∧ l.length ≤ ct ∧ NodesAt w' pn N K

set_option maxRecDepth 100000 in
set_option maxHeartbeats 8000000 in
theorem Done_c (b : Nat) (l : List Tok) (u : Nat) (N : List Nd) (vn : Value) (w : World) (hl : l.length ≤ 100000) (hs : Short l) (hN : N.length ≤ 100000) (hkl : ∀ x ∈ N, x.kids.length ≤ 100000) (h : BldV w b l u N vn) :
    Calls Tryz.prog 36 #[.pointer (some ⟨b, 0, none⟩)] w (DonePost l N w) := by
  obtain ⟨pt, ct, K, h⟩ := h
  have hbox := h.box
  have HT := Lib.hid (fun W h => ownTokens_c l pt ct W hl hs h)
  have HTA := Lib.hid h.toks
  obtain ⟨pv, cv, e1, hna, -, -, -⟩ := h.own.is
  rw [nds_len] at e1
  have HNA : Hid (NodesAt w pv N K) := Lib.hid ⟨hna, h.kids⟩
  have HLN : Hid (∀ v w' base, OwnG 4 72 w' base v (rowT l) → ∃ p c, v = .slice p l.length c ∧ TAt w' p l ∧ l.length ≤ c ∧ (l ≠ [] → ∀ a, p = some a → base ≤ a.block)) := Lib.hid (fun v w' base ho => by
    obtain ⟨p', c', e, ht, h1, -, h2⟩ := ho.is
    rw [rowT_len] at e h1
    exact ⟨p', c', e, t_of_g ht, h1, fun h0 => h2 (fun h3 => h0 (List.map_eq_nil_iff.1 h3))⟩)
  have HKL := Lib.hid hkl
  obtain ⟨m, hm⟩ : ∃ m, l.length = m := ⟨_, rfl⟩
  obtain ⟨M, hM⟩ : ∃ M, N.length = M := ⟨_, rfl⟩
  have HM := Lib.hid hM; have HLM := Lib.hid hm
  rw [hM] at e1 hN
  rw [hm, e1] at hbox
  rw [hm] at HT
  have HBX := Lib.hid hbox
  obtain ⟨d0, d1, d2, d3⟩ := cells3' hbox
  have hbw := hlt' hbox
  clear hbox hm hM h hna hkl e1 hs
  go_enter Tryz.func36, Tryz.ntmps36
  go_wp2_with fail
  have hR := heap_alloc_new w (.cells #[.slice none 0 0, .slice none 0 0] 26)
  have hgR := World.grownBy_alloc w (.cells #[.slice none 0 0, .slice none 0 0] 26) none
  have hsR : (w.alloc (.cells #[.slice none 0 0, .slice none 0 0] 26)).heap.size = w.heap.size + 1 := by simp
  generalize (w.alloc (.cells #[.slice none 0 0, .slice none 0 0] 26)) = W at *
  obtain ⟨B, hB⟩ : ∃ B, w.heap.size = B := ⟨_, rfl⟩
  have HBW := Lib.hid hB
  rw [hB] at hR hsR hbw ⊢
  have HR := Lib.hid hR; have HGR := Lib.hid hgR; have HSR := Lib.hid hsR
  clear hR hgR hB hsR d0 d1 d2 d3
  go_loopw [3, 11] (fun ov iv wr => ∃ (k : Nat) (K' : Kf), k ≤ M ∧ iv = .int .i64 k ∧ Hid (Nown wr (B + 1) ov (N.take k) K') ∧ Hid (Below (B + 1) W wr)) (fun _ v _ => M - (intOf v).toNat)
  case atStart => exact ⟨0, fun _ => (none, 0), Nat.zero_le _, rfl, Lib.hid ⟨OwnG.nil _ _ _ _, fun i x hx => by simp at hx, fun i x hx => by simp at hx⟩, Lib.hid (Below.refl _ _)⟩
  case round =>
    obtain ⟨k, K', hk, rfl, HO, HB⟩ := hrel
    have HGW : Hid (w.grownBy wr none) := Lib.hid (below_gb (Below.trans2 (Below.gb HGR.out (Nat.le_refl _)) (HB.out.mono (by rw [HBW.out]; omega))))
    have hBr : B + 1 ≤ wr.heap.size := by have := HB.out.size; have := HSR.out; omega
    by_cases hlt : k < M
    · have d1 : decide ((k : Int) < (M : Int)) = true := decide_eq_true (by omega)
      have d1' : decide (k < M) = true := decide_eq_true hlt
      obtain ⟨x, hx⟩ : ∃ x, N[k]? = some x := ⟨N[k]'(by rw [HM.out]; exact hlt), List.getElem?_eq_getElem _⟩
      obtain ⟨g, off, rfl, hgl, c0, c1, c2⟩ := node_at HNA.out hx
      have c0 := HGW.out.cell c0 (by simp)
      have c1 := HGW.out.cell c1 (by simp)
      have c2 := HGW.out.cell c2 (by simp)
      have HKA := Lib.hid (HNA.out.2 k x hx)
      have HTK : Hid (N.take (k + 1) = N.take k ++ [x]) := Lib.hid (by rw [List.take_add_one, hx]; rfl)
      have HTL : Hid ((ndsV K' (N.take k)).length = k) := Lib.hid (by rw [nds_len, List.length_take, HM.out]; omega)
      have HLE : Hid ((ndsV K' (N.take k)).length ≤ 1000000) := Lib.hid (by rw [HTL.out]; omega)
      have HON := Lib.hid (fun W q c h => ownNode_c x.kind x.tok x.kids q c W (HKL.out x (List.mem_of_getElem? hx)) h)
      obtain ⟨xk, hxk⟩ : ∃ xk, x.kind = xk := ⟨_, rfl⟩
      obtain ⟨xt, hxt⟩ : ∃ xt, x.tok = xt := ⟨_, rfl⟩
      obtain ⟨kl, hkl⟩ : ∃ kl, x.kids.length = kl := ⟨_, rfl⟩
      have HXK := Lib.hid hxk; have HXT := Lib.hid hxt; have HXL := Lib.hid hkl
      rw [hxk] at c0 HON
      rw [hxt] at c1 HON
      rw [hkl] at c2 HON
      clear hx hxk hxt hkl
      generalize K k = kk at *
      obtain ⟨kq, kc⟩ := kk
      simp only at c2 HKA
      have hgX := World.grownBy_alloc wr (.cells #[.int .i64 xk, .int .i64 xt, .slice kq kl kc] 39) none
      have HGX := Lib.hid hgX
      have hgw : g < wr.heap.size := Nat.lt_of_lt_of_le hgl HGW.out.size
      clear hgX
      go_wp2_with fail
      refine (HON.out _ kq kc (HKA.out.kept (gb_trans HGW.out HGX.out))).mono ?_
      rintro e w2 ⟨hg2, p2, c2', rfl, hv2, -, hb2⟩
      rw [HXL.out]
      have HV2 := Lib.hid hv2
      have HG2 := Lib.hid (gb_trans HGX.out hg2)
      have HN2 := Lib.hid (HO.out.kept HG2.out)
      have HB2 : Hid (x.kids ≠ [] → ∀ a, p2 = some a → B + 1 ≤ a.block ∧ u3.ownBlock ≠ some a.block) := Lib.hid (fun hn a ha => by
        have h1 := (hb2 hn a ha).1
        simp at h1
        refine ⟨by omega, fun e => ?_⟩
        have h2 := (OwnG.at HO.out.own _ e).2
        omega)
      have HBE := Lib.hid (Below.trans2 HB.out (Below.gb HG2.out hBr))
      have hB2 : B + 1 ≤ w2.heap.size := Nat.le_trans hBr HG2.out.size
      clear hg2 hv2 hb2 HO HB HGX c0 c1 c2
      go_wp2_with (at_builtin; go_loud (refine wpList_appGl (s := 3) (t := 24) (T := 39) (by decide) Tryz.underlying24 infoTN rfl (by omega) rfl _ _ rfl (B + 1) (ndsV K' (N.take k)) [.int .i64 xk, .int .i64 xt, .slice p2 kl c2'] rfl (fun u hu => by simp at hu; rcases hu with rfl | rfl | rfl <;> rfl) u3 rfl (OwnG.kept HN2.out.own (World.grownBy_alloc w2 _ none)) w2.heap.size _ rfl (heap_alloc_new w2 _) rfl HLE.out (by simp; omega) (w2.heap.size + 1) (by simp) ?_))
      intro g9 cap9 w9 hO9 hg9 hl9
      obtain ⟨K9, hN9⟩ := Nown.add (HN2.out.kept (World.grownBy_alloc w2 (.cells #[.int .i64 xk, .int .i64 xt, .slice p2 kl c2'] 39) none)) hg9 (x := x) (p := p2) (c := c2') (by rw [HXK.out, HXT.out, HXL.out]; exact hO9) (HV2.out.kept (World.grownBy_alloc w2 _ none)) HB2.out (hl9.imp id (fun h => by simp; omega))
      rw [← HTK.out] at hN9
      have HN9 := Lib.hid hN9
      have HB9 := Lib.hid ((Below.trans2 HBE.out (Below.gb (World.grownBy_alloc w2 _ none) hB2)).grown hg9 (by simp; omega) (fun k e => (OwnG.at HN2.out.own k e).1))
      rw [HTL.out] at HN9 ⊢
      clear hO9 hg9 hl9 hN9 HN2 HBE
      go_wp2_with fail
      go_roundw
      case rel => exact ⟨k + 1, K9, by omega, by go_num, HN9, HB9⟩
      case measure => (simp [intOf] <;> omega)
    · obtain rfl : k = M := by omega
      rw [List.take_of_length_le (l := N) (i := k) (by rw [HM.out]; exact Nat.le_refl _)] at HO
      obtain ⟨pn, cn, en, hnn, -, -, -⟩ := HO.out.own.is
      rw [nds_len, HM.out] at en
      subst en
      have HNN : Hid (NodesAt wr pn N K') := Lib.hid ⟨hnn, HO.out.kids⟩
      have HPB : Hid (∀ a, pn = some a → k ≠ 0 → B + 1 ≤ a.block) := Lib.hid (fun a ha h0 => by
        obtain ⟨a', h1, h2, -⟩ := OwnG.lt HO.out.own rfl (p := pn) (n := k) (c := cn) (by omega)
        rw [ha] at h1; cases h1; exact h2)
      obtain ⟨d0, d1, d2, d3⟩ := cells3' (bx HGW.out HBX.out)
      have HR1 := Lib.hid ((HB.out.block B (by omega)).trans HR.out)
      clear hnn
      go_wp2_with fail
      refine (HT.out wr (HTA.out.kept HGW.out)).mono ?_
      rintro e w2 ⟨v, rfl, ho, hg⟩
      obtain ⟨p2, c2, rfl, ht2, hc2, hpb2⟩ := HLN.out _ _ _ ho
      have HT2 := Lib.hid ht2; have HC2 := Lib.hid hc2; have HPB2 := Lib.hid hpb2
      have HG2 := Lib.hid hg
      rw [HLM.out]
      have HR2 := Lib.hid (bx hg HR1.out)
      obtain ⟨f0, f1, f2⟩ := cells2 HR2.out
      have HR3 := Lib.hid (set_cells (i := 1) (u := .slice pn k cn) (set_cells (i := 0) (u := .slice p2 m c2) HR2.out))
      have HF3 := Lib.hid ((Fr2.setCell (S := fun k => k = B) (Fr2.refl _ w2) (g := B) (j := 0) rfl (.slice p2 m c2)).setCell (g := B) (j := 1) rfl (.slice pn k cn))
      clear ho ht2 hc2 hpb2 hg d0 d1 d2 d3
      go_wp2_with fail
      obtain ⟨k0, k1, -⟩ := cells2 HR3.out
      refine bodyPost_ret (v := .agg #[.slice p2 m c2, .slice pn k cn]) (by simp [results, Tryz.results36, go_sem, k0, k1]) rfl ⟨Fr2.after (gb_trans HGW.out HG2.out) HF3.out (fun j hj => by rw [HBW.out]; omega), p2, c2, pn, cn, K', by rw [HLM.out, HM.out], HT2.out.keptF HF3.out (fun h0 a ha e => by have := HPB2.out h0 a ha; omega), HC2.out, ?_, fun i x hx => ?_⟩
      · refine GAt.keptS (HNN.out.1.kept HG2.out) HF3.out fun h0 a ha e => ?_
        have h1 := HPB.out a ha (fun e0 => h0 (List.length_eq_zero_iff.1 (by rw [nds_len, HM.out]; exact e0)))
        omega
      · refine ((HNN.out.2 i x hx).kept HG2.out).keptF HF3.out fun h0 a ha e => ?_
        have h1 := (HO.out.khi i x hx (intsV_ne h0) a ha).1
        omega
end Go.Proofs.YthclkbaankjbiaaGreatDoor
