/- The tree as the document has it. -/
import Derived.Deep.DeepCutAuto
import Derived.Deep.CutBlock
import Derived.Test.YtdilncefhfbgeaaGreatDoorM38
import Derived.Test.YtdilncefhfbgeaaGreatDoorAForm
set_option linter.unusedVariables false
set_option linter.unusedSimpArgs false
namespace Go.Proofs.YtdilncefhfbgeaaGreatDoor
open Go.RowKit

theorem toksV_len (T : List TokI) : (toksV T).length = T.length := List.length_map _
theorem ndsV_len (K : Nat → Option Addr × Nat) (N : List Nd) : (ndsV K N).length = N.length := List.length_mapIdx
theorem toks_next {T : List TokI} {k : Nat} {t : TokI} (h : T[k]? = some t) : (toksV T).take (k + 1) = (toksV T).take k ++ [tokVI t] := by
  rw [List.take_add_one]; unfold toksV; rw [List.getElem?_map, h]; rfl
theorem nds_next {K : Nat → Option Addr × Nat} {N : List Nd} {k : Nat} {x : Nd} (h : N[k]? = some x) : (ndsV K N).take (k + 1) = (ndsV K N).take k ++ [ndV K k x] := by
  rw [List.take_add_one]; unfold ndsV; rw [List.getElem?_mapIdx, h]; rfl

theorem infoTok : (Tryz.prog.info? 110).map (fun i => (i.zero, i.size, i.bytes)) = some (some (.agg #[.int .i64 0, .string ⟨#[]⟩, .string ⟨#[]⟩, .int .i64 0]), 4, 48) := by kernel_rfl
theorem infoNode : (Tryz.prog.info? 108).map (fun i => (i.zero, i.size, i.bytes)) = some (some (.agg #[.int .i64 0, .int .i64 0, .slice none 0 0]), 3, 40) := by kernel_rfl

def TreePost (T : List TokI) (N : List Nd) (K : Nat → Option Addr × Nat) (w : World) (e : Ending) (w' : World) : Prop :=
  w.grownBy w' none ∧ ∃ p c p' c', e = .returned (.agg #[.slice p T.length c, .slice p' N.length c']) ∧ ToksAt w' p T ∧ NodesAt w' p' N K

set_option maxRecDepth 100000 in
set_option maxHeartbeats 8000000 in
theorem MTree_c (T : List TokI) (N : List Nd) (K : Nat → Option Addr × Nat) (pt pn : Option Addr) (ct cn : Nat) (w : World) (hTm : T.length ≤ 40000) (hNm : N.length ≤ 150000) (ht : ToksAt w pt T) (hw : NodesAt w pn N K) :
    Calls Tryz.prog 17 #[.agg #[.slice pt T.length ct, .slice pn N.length cn]] w (TreePost T N K w) := by
  have HT := Lib.hid ht; have HW := Lib.hid hw
  have HP : Hid (∀ e w', (w.grownBy w' none ∧ ∃ p c p' c', e = .returned (.agg #[.slice p T.length c, .slice p' N.length c']) ∧ ToksAt w' p T ∧ NodesAt w' p' N K) → TreePost T N K w e w') := Lib.hid (fun _ _ h => h)
  obtain ⟨m, hm⟩ : ∃ m, T.length = m := ⟨_, rfl⟩
  obtain ⟨M, hM⟩ : ∃ M, N.length = M := ⟨_, rfl⟩
  rw [hm, hM] at HP
  rw [hm] at hTm ⊢
  rw [hM] at hNm ⊢
  have HM := Lib.hid hM; have HTL := Lib.hid hm
  clear ht hw hm hM
  go_enter Tryz.func17, Tryz.ntmps17
  go_wp2_with fail
  have hA := heap_alloc_new w (.cells #[.slice pt m ct, .slice pn M cn] 26)
  have hgA := World.grownBy_alloc w (.cells #[.slice pt m ct, .slice pn M cn] 26) none
  have hsA : (w.alloc (.cells #[.slice pt m ct, .slice pn M cn] 26)).heap.size = w.heap.size + 1 := by simp
  generalize (w.alloc (.cells #[.slice pt m ct, .slice pn M cn] 26)) = W1 at *
  have hB := heap_alloc_new W1 (.cells #[.slice none 0 0, .slice none 0 0] 46)
  have hgB := World.grownBy_alloc W1 (.cells #[.slice none 0 0, .slice none 0 0] 46) none
  have hsB : (W1.alloc (.cells #[.slice none 0 0, .slice none 0 0] 46)).heap.size = w.heap.size + 1 + 1 := by rw [← hsA]; simp
  rw [hsA] at hB
  generalize (W1.alloc (.cells #[.slice none 0 0, .slice none 0 0] 46)) = W2 at *
  have hC := heap_alloc_new W2 (.cells #[.slice none 0 0, .slice none 0 0] 46)
  have hgC := World.grownBy_alloc W2 (.cells #[.slice none 0 0, .slice none 0 0] 46) none
  have hsC : (W2.alloc (.cells #[.slice none 0 0, .slice none 0 0] 46)).heap.size = w.heap.size + 3 := by rw [show w.heap.size + 3 = W2.heap.size + 1 by omega]; simp
  rw [hsB] at hC
  generalize (W2.alloc (.cells #[.slice none 0 0, .slice none 0 0] 46)) = W at *
  have HA := Lib.hid (bx hgC (bx hgB hA))
  have HB := Lib.hid (bx hgC hB)
  have HC := Lib.hid hC
  have HG0 := Lib.hid (gb_trans hgA (gb_trans hgB hgC))
  obtain ⟨b, hb⟩ : ∃ b, w.heap.size = b := ⟨_, rfl⟩
  have HBW := Lib.hid hb
  rw [hb] at HA HB HC hsC ⊢
  have HSC := Lib.hid hsC
  clear hA hB hC hgA hgB hgC hsA hsB hb hsC
  obtain ⟨b1, hb1⟩ : ∃ x, b + 1 = x := ⟨_, rfl⟩
  rw [hb1] at HB HC ⊢
  obtain ⟨b2, hb2⟩ : ∃ x, b1 + 1 = x := ⟨_, rfl⟩
  rw [hb2] at HC ⊢
  have hb01 : b < b1 := by omega
  have hb12 : b1 < b2 := by omega
  have hb23 : b2 < b + 3 := by omega
  clear hb1 hb2
  go_loopw [11] (fun v wr => ∃ k : Nat, k ≤ m ∧ v = .int .i64 k ∧ (∃ o, Hid (wr.heap[b2]? = some (.cells #[o, .slice none 0 0] 46 (0, 0))) ∧ Hid (OwnG 4 110 wr (b + 3) o ((toksV T).take k))) ∧ Hid (Fr2 (fun k => k = b2) W wr)) (fun v _ => m - (intOf v).toNat)
  case atStart => exact ⟨0, Nat.zero_le _, rfl, ⟨_, HC, Lib.hid (OwnG.nil _ _ _ _)⟩, Lib.hid (Fr2.refl _ _)⟩
  case round =>
    clear HC
    obtain ⟨k, hk, rfl, ⟨o, HO, HV⟩, HF⟩ := hrel
    have HGW := Lib.hid (Fr2.after HG0.out HF.out (fun k e => by rw [HBW.out, e]; omega))
    by_cases hlt : k < m
    · have d3 : decide ((k : Int) < (m : Int)) = true := decide_eq_true (by omega)
      have d3' : decide (k < m) = true := decide_eq_true hlt
      obtain ⟨t, hx⟩ : ∃ t, T[k]? = some t := ⟨T[k]'(by rw [HTL.out]; exact hlt), List.getElem?_eq_getElem _⟩
      obtain ⟨g, off, rfl, hgl, c0, c1, c2, c3⟩ := tok_at HT.out hx
      have c0 := HGW.out.cell c0 (by simp)
      have c1 := HGW.out.cell c1 (by simp)
      have c2 := HGW.out.cell c2 (by simp)
      have c3 := HGW.out.cell c3 (by simp)
      have HNX := Lib.hid (toks_next hx)
      obtain ⟨y1, hy1⟩ : ∃ y, strV t.lead = y := ⟨_, rfl⟩
      obtain ⟨y2, hy2⟩ : ∃ y, strV t.text = y := ⟨_, rfl⟩
      have HTV : Hid (tokVI t = [.int .i64 t.kind, y1, y2, .int .i64 t.pos]) := Lib.hid (by unfold tokVI; rw [hy1, hy2])
      unfold strV at hy1 hy2
      have h1c : ∀ u ∈ tokVI t, u.oneCell' = true := fun u hu => by unfold tokVI strV at hu; simp at hu; rcases hu with rfl | rfl | rfl | rfl <;> rfl
      have H1C := Lib.hid h1c
      have hle : ((toksV T).take k).length ≤ 1000000 := by rw [List.length_take, toksV_len, HTL.out]; omega
      have HLE := Lib.hid hle
      unfold strV at c1 c2
      obtain ⟨z1, hz1⟩ : ∃ z : ByteArray, (⟨t.lead.toArray⟩ : ByteArray) = z := ⟨_, rfl⟩
      obtain ⟨z2, hz2⟩ : ∃ z : ByteArray, (⟨t.text.toArray⟩ : ByteArray) = z := ⟨_, rfl⟩
      rw [hz1] at c1 hy1
      rw [hz2] at c2 hy2
      subst hy1; subst hy2
      generalize t.kind = tk at *
      generalize t.pos = tp at *
      obtain ⟨a0, a1, a2⟩ := cells2 HO.out
      have hb2w : b2 < wr.heap.size := hlt' HO.out
      have hgw' : g < wr.heap.size := Nat.lt_of_lt_of_le hgl HGW.out.size
      have hX := heap_alloc_new wr (.cells #[.int .i64 tk, .string z1, .string z2, .int .i64 tp] 113)
      have hgX := World.grownBy_alloc wr (.cells #[.int .i64 tk, .string z1, .string z2, .int .i64 tp] 113) none
      have HO2 := Lib.hid (bx hgX HO.out)
      have HV2 := Lib.hid (HV.out.kept hgX)
      have HF2 := Lib.hid (HF.out.trans (Fr2.none hgX))
      have HX := Lib.hid hX
      clear hX hle h1c hx hz1 hz2 HF HV HO
      have HTK : Hid (((toksV T).take k).length = k) := Lib.hid (by rw [List.length_take, toksV_len, HTL.out]; omega)
      generalize (toksV T).take k = LK at HV2 HNX HLE HTK
      go_wp2_with (at_builtin; go_loud (refine wpList_appG (s := 4) (t := 43) (T := 110) (by decide) Tryz.underlying43 infoTok rfl (by omega) rfl _ _ rfl (b + 3) LK (tokVI t) (by rw [HTV.out]; rfl) H1C.out o rfl HV2.out (wr.heap.size + 1) (by simp) rfl HLE.out (by rw [← HSC.out]; exact HF2.out.size) _ (by rw [HTV.out]) ?_))
      intro g9 cap9 w9 hO9 hB9
      rw [← HNX.out] at hO9
      have HO9 := Lib.hid hO9
      have HB9 := Lib.hid (show w9.heap[b2]? = _ from (hB9.block (b2) (by omega)).trans HO2.out)
      obtain ⟨q0, q1, q2⟩ := cells2 HB9.out
      have HF9 := Lib.hid (HF2.out.low (by rw [HSC.out]; exact hB9))
      clear hO9 hB9 HX HO2 HV2 HF2 a0 a1 a2 c0 c1 c2 c3
      rw [HTK.out] at HO9 ⊢
      have HB10 := Lib.hid (show ((w9.setCell ⟨b2, 0, none⟩ (.slice (some ⟨g9, 0, none⟩) (k + 1) cap9)).heap[b2]? = some (.cells #[.slice (some ⟨g9, 0, none⟩) (k + 1) cap9, .slice none 0 0] 46 (0, 0))) from set_cells HB9.out)
      have HF10 := Lib.hid (HF9.out.setCell (g := b2) (j := 0) rfl (.slice (some ⟨g9, 0, none⟩) (k + 1) cap9))
      have HO10 := Lib.hid (HO9.out.keptS (Fr2.setCell (S := fun k => k = b2) (Fr2.refl _ _) (g := b2) (j := 0) rfl (.slice (some ⟨g9, 0, none⟩) (k + 1) cap9)) (fun g hg => by omega))
      clear HO9 HF9 HB9
      go_wp2_with fail
      go_roundw
      case rel => exact ⟨k + 1, by omega, by go_num, ⟨_, HB10, HO10⟩, HF10⟩
      case measure => (simp [intOf] <;> omega)
    · obtain rfl : k = m := by omega
      have HAW := Lib.hid (HF.out.keep HA.out (by omega))
      obtain ⟨a0, a1, a2⟩ := cells2 HAW.out
      rw [List.take_of_length_le (by rw [toksV_len, HTL.out]; exact Nat.le_refl _)] at HV
      obtain ⟨pT, cT, eT, hTA, -⟩ := HV.out.is
      rw [toksV_len, HTL.out] at eT
      have HTA := Lib.hid (show ToksAt wr pT T from hTA)
      have HSZ := Lib.hid HF.out.size
      rw [HSC.out] at HSZ
      subst eT
      have HBB := Lib.hid (fun h a (ha : pT = some a) => by
        have := HV.out.lt rfl (p := pT) (n := k) (c := cT) h
        obtain ⟨a', h1, h2, h3⟩ := this
        rw [ha] at h1
        have h4 : a = a' := Option.some.inj h1
        exact (h4 ▸ ⟨h2, h3⟩ : b + 3 ≤ a.block ∧ a.block < wr.heap.size))
      clear hTA
      have HOB := HO
      obtain ⟨W3, hW3⟩ : ∃ W3, wr = W3 := ⟨_, rfl⟩
      rw [hW3] at HGW a0 a1 a2 HSZ HTA HOB HAW HBB HF ⊢
      clear HO HV hW3
      go_wp2_with fail
      go_loopw [25] (fun v wr => ∃ j : Nat, j ≤ M ∧ v = .int .i64 j ∧ (∃ o, Hid (wr.heap[b2]? = some (.cells #[.slice pT k cT, o] 46 (0, 0))) ∧ Hid (OwnG 3 108 wr W3.heap.size o ((ndsV K N).take j))) ∧ Hid (Fr2 (fun k => k = b2) W3 wr)) (fun v _ => M - (intOf v).toNat)
      case atStart => exact ⟨0, Nat.zero_le _, rfl, ⟨_, HOB, Lib.hid (OwnG.nil _ _ _ _)⟩, Lib.hid (Fr2.refl _ _)⟩
      case round =>
        clear HOB
        obtain ⟨j, hj, rfl, ⟨o, HO, HV⟩, HF3⟩ := hrel
        have HGW3 := Lib.hid (Fr2.after HG0.out (HF.out.trans HF3.out) (fun k e => by rw [HBW.out, e]; omega))
        by_cases hlt : j < M
        · have d3 : decide ((j : Int) < (M : Int)) = true := decide_eq_true (by omega)
          have d3' : decide (j < M) = true := decide_eq_true hlt
          obtain ⟨x, hx⟩ : ∃ x, N[j]? = some x := ⟨N[j]'(by rw [HM.out]; exact hlt), List.getElem?_eq_getElem _⟩
          obtain ⟨g, off, rfl, hgl, c0, c1, c2⟩ := node_at HW.out hx
          have c0 := HGW3.out.cell c0 (by simp)
          have c1 := HGW3.out.cell c1 (by simp)
          have c2 := HGW3.out.cell c2 (by simp)
          have HNX := Lib.hid (nds_next (K := K) hx)
          obtain ⟨y, hy⟩ : ∃ y, Value.slice (K j).1 x.kids.length (K j).2 = y := ⟨_, rfl⟩
          have HTV : Hid (ndV K j x = [.int .i64 x.kind, .int .i64 x.tok, y]) := Lib.hid (by unfold ndV; rw [hy])
          have H1C : Hid (∀ u ∈ ndV K j x, u.oneCell' = true) := Lib.hid (fun u hu => by unfold ndV at hu; simp at hu; rcases hu with rfl | rfl | rfl <;> rfl)
          have HLE : Hid (((ndsV K N).take j).length ≤ 1000000) := Lib.hid (by rw [List.length_take, ndsV_len, HM.out]; omega)
          generalize x.kind = xk at *
          generalize x.tok = xt at *
          generalize x.kids.length = kl at *
          generalize (K j).1 = kq at *
          generalize (K j).2 = kc at *
          obtain ⟨a0, a1, a2⟩ := cells2 HO.out
          have hb2w : b2 < wr.heap.size := hlt' HO.out
          have hgw' : g < wr.heap.size := Nat.lt_of_lt_of_le hgl HGW3.out.size
          have hgX := World.grownBy_alloc wr (.cells #[.int .i64 xk, .int .i64 xt, .slice kq kl kc] 79) none
          have HO2 := Lib.hid (bx hgX HO.out)
          have HV2 := Lib.hid (HV.out.kept hgX)
          have HF2 := Lib.hid (HF3.out.trans (Fr2.none hgX))
          have HS2 := Lib.hid HF2.out.size
          have HTK : Hid (((ndsV K N).take j).length = j) := Lib.hid (by rw [List.length_take, ndsV_len, HM.out]; omega)
          generalize (ndsV K N).take j = LK at HV2 HNX HLE HTK HV
          subst hy
          clear hx HF3 HV HO hgX
          go_wp2_with (at_builtin; go_loud (refine wpList_appG (s := 3) (t := 44) (T := 108) (by decide) Tryz.underlying44 infoNode rfl (by omega) rfl _ _ rfl W3.heap.size LK (ndV K j x) (by rw [HTV.out]; rfl) H1C.out o rfl HV2.out (wr.heap.size + 1) (by simp) rfl HLE.out HS2.out _ (by rw [HTV.out]) ?_))
          intro g9 cap9 w9 hO9 hB9
          rw [← HNX.out] at hO9
          have HO9 := Lib.hid hO9
          have hb3 : b2 < W3.heap.size := Nat.lt_of_lt_of_le hb23 HSZ.out
          have HB9 := Lib.hid (show w9.heap[b2]? = _ from (hB9.block b2 hb3).trans HO2.out)
          obtain ⟨q0, q1, q2⟩ := cells2 HB9.out
          have HF9 := Lib.hid (HF2.out.low hB9)
          clear hO9 hB9 HO2 HV2 HF2 a0 a1 a2 c0 c1 c2
          rw [HTK.out] at HO9 ⊢
          have HB10 := Lib.hid (show ((w9.setCell ⟨b2, 1, none⟩ (.slice (some ⟨g9, 0, none⟩) (j + 1) cap9)).heap[b2]? = some (.cells #[.slice pT k cT, .slice (some ⟨g9, 0, none⟩) (j + 1) cap9] 46 (0, 0))) from set_cells HB9.out)
          have HF10 := Lib.hid (HF9.out.setCell (g := b2) (j := 1) rfl (.slice (some ⟨g9, 0, none⟩) (j + 1) cap9))
          have HO10 := Lib.hid (HO9.out.keptS (Fr2.setCell (S := fun k => k = b2) (Fr2.refl _ _) (g := b2) (j := 1) rfl (.slice (some ⟨g9, 0, none⟩) (j + 1) cap9)) (fun g hg => by omega))
          clear HO9 HF9 HB9
          go_wp2_with fail
          go_roundw
          case rel => exact ⟨j + 1, by omega, by go_num, ⟨_, HB10, HO10⟩, HF10⟩
          case measure => (simp [intOf] <;> omega)
        · obtain rfl : j = M := by omega
          rw [List.take_of_length_le (by rw [ndsV_len, HM.out]; exact Nat.le_refl _)] at HV
          obtain ⟨pN, cN, eN, hNA, -⟩ := HV.out.is
          rw [ndsV_len, HM.out] at eN
          subst eN
          have HNA := Lib.hid hNA
          obtain ⟨a0, a1, a2⟩ := cells2 HO.out
          obtain ⟨r0, r1, r2⟩ := cells2 (HF3.out.keep (HF.out.keep HB.out (by omega)) (by omega))
          have HTW := Lib.hid (GAt.keptS HTA.out HF3.out (fun h a ha e => by
            have h1 := HBB.out (by cases k with | zero => exact absurd (List.length_eq_zero_iff.1 (by rw [toksV_len, HTL.out])) h | succ n => omega) a ha
            omega))
          have HNW : Hid (KidsAt wr N K) := Lib.hid (fun i x hx => (HW.out.2 i x hx).kept HGW3.out)
          have HNB := Lib.hid (fun h a (ha : pN = some a) => by
            have := HV.out.lt rfl (p := pN) (n := j) (c := cN) h
            obtain ⟨a', h1, h2, h3⟩ := this
            rw [ha] at h1
            have h4 : a = a' := Option.some.inj h1
            exact (h4 ▸ h2 : W3.heap.size ≤ a.block))
          have hb1w : b1 < wr.heap.size := Nat.lt_trans hb12 (hlt' HO.out)
          have hbx := set_cells (i := 1) (u := .slice pN j cN) (set_cells (i := 0) (u := .slice pT k cT) (HF3.out.keep (HF.out.keep HB.out (by omega)) (by omega)))
          have HFR := Lib.hid ((Fr2.setCell (S := fun k => k = b1) (Fr2.refl _ wr) (g := b1) (j := 0) rfl (.slice pT k cT)).setCell (g := b1) (j := 1) rfl (.slice pN j cN))
          have HGF := Lib.hid (Fr2.after HGW3.out HFR.out (fun i e => by rw [HBW.out, e]; omega))
          clear hNA HV HF3 HO
          go_wp2_with fail
          obtain ⟨k2, k3, -⟩ := cells2 (show ((wr.setCell ⟨b1, 0, none⟩ (.slice pT k cT)).setCell ⟨b1, 1, none⟩ (.slice pN j cN)).heap[b1]? = some (.cells #[.slice pT k cT, .slice pN j cN] 46 (0, 0)) from hbx)
          refine bodyPost_ret (v := .agg #[.slice pT k cT, .slice pN j cN]) (by simp [results, Tryz.results17, go_sem, k2, k3]) rfl (HP.out _ _ ⟨HGF.out, pT, cT, pN, cN, rfl, GAt.keptS HTW.out HFR.out (fun h a ha e => ?_), GAt.keptS HNA.out HFR.out (fun h a ha e => ?_), fun i x hx => (HW.out.2 i x hx).kept HGF.out⟩)
          · have h1 := HBB.out (by cases k with | zero => exact absurd (List.length_eq_zero_iff.1 (by rw [toksV_len, HTL.out])) h | succ n => omega) a ha
            omega
          · have h1 := HNB.out (by cases j with | zero => exact absurd (List.length_eq_zero_iff.1 (by rw [ndsV_len, HM.out])) h | succ n => omega) a ha
            have := HSZ.out
            omega
end Go.Proofs.YtdilncefhfbgeaaGreatDoor
namespace Go.Proofs.YtdilncefhfbgeaaGreatDoor
open Go.RowKit

mutual
theorem cntE_sizE : ∀ x : Ex, cntE x + 1 = 2 * sizE x
  | .mk op nm md nu ys ks ps => by simp only [cntE, sizE]; have := cntK_sizK ks; omega
theorem cntK_sizK : ∀ l : List Ex, cntK l = 2 * sizK l
  | [] => by simp [cntK, sizK]
  | k :: l => by have := cntE_sizE k; have := cntK_sizK l; simp only [cntK, sizK]; omega
end
theorem sizE_nodeE (k : Nat) (o : Nat → Tok) (ks : List Ex) : sizE (nodeE k o ks) = 1 + sizK ks := by
  unfold nodeE
  repeat' split
  all_goals simp only [sizE]
mutual
theorem sizE_axT (T : List Tok) : ∀ t : Tr, sizE (axT T t) ≤ szR t
  | .lf i => by simp only [axT, nilE, sizE, sizK, szR]; omega
  | .nd k l => by
    have h := sizK_axTs T l
    simp only [axT, szR]
    split
    · cases hx : axTs T l with
      | nil => simp only [List.headD, nilE, sizE, sizK]; omega
      | cons y r => rw [hx] at h; simp only [List.headD, sizK] at h ⊢; omega
    · rw [sizE_nodeE]; omega
theorem sizK_axTs (T : List Tok) : ∀ l : List Tr, sizK (axTs T l) ≤ szRs l
  | [] => by simp [axTs, sizK]
  | t :: l => by
    have h1 := sizE_axT T t
    have h2 := sizK_axTs T l
    simp only [axTs, szRs]
    split
    · simp only [sizK]; omega
    · omega
end
theorem binE_lt (s : List UInt8) : binE s < 100 := by unfold binE; split <;> omega
theorem unE_lt (s : List UInt8) : unE s < 100 := by unfold unE; split <;> omega
/-- Small texts make small parts. -/
theorem small_nodeE (k : Nat) (o : Nat → Tok) (ks : List Ex) (ho : ∀ j, (o j).text.length ≤ 1000000) : smallE (nodeE k o ks) := by
  unfold nodeE
  repeat' split
  all_goals
    refine ⟨?_, ?_, ?_, ?_⟩
    all_goals first | exact ho _ | exact binE_lt _ | exact unE_lt _ | simp
theorem allS_mk {x : Ex} (h : smallE x) (hk : allSs (kidsE x)) : allS x := by
  cases x with
  | mk op nm md nu ys ks ps => simp only [allS]; exact ⟨h, hk⟩
theorem kidsE_nodeE (k : Nat) (o : Nat → Tok) (ks : List Ex) : kidsE (nodeE k o ks) = ks := by
  unfold nodeE
  repeat' split
  all_goals rfl
theorem small_nil : allS nilE := by simp [nilE, allS, allSs, smallE]
mutual
theorem allS_axT (T : List Tok) (hT : ∀ t ∈ T, t.text.length ≤ 1000000) : ∀ t : Tr, allS (axT T t)
  | .lf i => by simp only [axT]; exact small_nil
  | .nd k l => by
    have h := allSs_axTs T hT l
    simp only [axT]
    split
    · cases hx : axTs T l with
      | nil => exact small_nil
      | cons y r => rw [hx] at h; simp only [allSs] at h; exact h.1
    · refine allS_mk (small_nodeE _ _ _ (fun j => ?_)) (by rw [kidsE_nodeE]; exact h)
      unfold tkT
      cases ht : T[(ownL l).getD j T.length]? with
      | none => simp
      | some t => exact hT t (List.mem_of_getElem? ht)
theorem allSs_axTs (T : List Tok) (hT : ∀ t ∈ T, t.text.length ≤ 1000000) : ∀ l : List Tr, allSs (axTs T l)
  | [] => by simp [axTs, allSs]
  | t :: l => by
    have h1 := allS_axT T hT t
    have h2 := allSs_axTs T hT l
    simp only [axTs]
    split
    · simp only [allSs]; exact ⟨h1, h2⟩
    · exact h2
end
end Go.Proofs.YtdilncefhfbgeaaGreatDoor
namespace Go.Proofs.YtdilncefhfbgeaaGreatDoor
open Go.RowKit

def sumTx (T : List Tok) (l : List Nat) : Nat := (l.map (fun i => (tkT T i).text.length)).sum
theorem sumTx_nil (T : List Tok) : sumTx T [] = 0 := rfl
theorem sumTx_cons (T : List Tok) (i : Nat) (l : List Nat) : sumTx T (i :: l) = (tkT T i).text.length + sumTx T l := by unfold sumTx; simp
theorem sumTx_append (T : List Tok) (a b : List Nat) : sumTx T (a ++ b) = sumTx T a + sumTx T b := by unfold sumTx; simp
theorem tk_end (T : List Tok) : (tkT T T.length).text = [] := by unfold tkT; simp
theorem own3 (T : List Tok) (L : List Nat) : (tkT T (L.getD 0 T.length)).text.length + (tkT T (L.getD 1 T.length)).text.length + (tkT T (L.getD 2 T.length)).text.length ≤ sumTx T L := by
  match L with
  | [] => simp [tk_end, sumTx_nil]
  | [a] => simp [tk_end, sumTx_cons, sumTx_nil]
  | [a, b] => simp [tk_end, sumTx_cons, sumTx_nil]
  | a :: b :: c :: r => simp only [sumTx_cons, List.getD_cons_zero, List.getD_cons_succ]; omega
theorem open_node (k : Nat) (o : Nat → Tok) (ks : List Ex) : (openE (nodeE k o ks)).length ≤ 11 + ((o 0).text.length + (o 1).text.length + (o 2).text.length) := by
  have d : ∀ n, (decN n).length ≤ 2 := fun n => by unfold decN; split <;> simp
  unfold nodeE
  repeat' split
  all_goals
    simp only [openE, nmE, tailE]
    have d24 := d 24; have d22 := d 22; have d21 := d 21; have d23 := d 23; have d3 := d 3; have d1 := d 1; have d2 := d 2; have d4 := d 4; have db := d (binE (o 0).text); have du := d (unE (o 0).text)
    repeat' split
    all_goals (simp only [List.length_append, List.length_cons, List.length_nil]; omega)
theorem dmpE_open (x : Ex) : (dmpE x).length = (openE x).length + (dmpK (kidsE x)).length + 1 := by
  cases x with
  | mk op nm md nu ys ks ps => simp only [dmpE, kidsE, List.length_append, List.length_singleton]
mutual
theorem dmpE_axT (T : List Tok) : ∀ t : Tr, (dmpE (axT T t)).length + 1 ≤ 13 * szR t + sumTx T (lvT t)
  | .lf i => by
    have : (dmpE nilE).length = 3 := by decide
    simp only [axT, szR]; omega
  | .nd k l => by
    have h := dmpK_axTs T l
    simp only [axT, szR, lvT]
    split
    · cases hx : axTs T l with
      | nil =>
        have : (dmpE nilE).length = 3 := by decide
        simp only [List.headD]; omega
      | cons y r =>
        rw [hx] at h
        simp only [List.headD, dmpK, List.length_append, List.length_cons] at h ⊢
        omega
    · rw [dmpE_open, kidsE_nodeE]
      have h2 := open_node k (fun j => tkT T ((ownL l).getD j T.length)) (axTs T l)
      have h3 := own3 T (ownL l)
      omega
theorem dmpK_axTs (T : List Tok) : ∀ l : List Tr, (dmpK (axTs T l)).length + sumTx T (ownL l) ≤ 13 * szRs l + sumTx T (lvTs l)
  | [] => by simp [axTs, dmpK, ownL, sumTx, lvTs, szRs]
  | .lf i :: l => by
    have h2 := dmpK_axTs T l
    simp only [axTs, isN, ownL, lvTs, lvT, szRs, szR, sumTx_cons, sumTx_append, List.cons_append, List.nil_append]
    simp only [Bool.false_eq_true, if_false]
    omega
  | .nd k r :: l => by
    have h1 := dmpE_axT T (.nd k r)
    have h2 := dmpK_axTs T l
    simp only [axTs, isN, ownL, lvTs, szRs, sumTx_append, if_true, dmpK, List.length_append, List.length_cons]
    omega
end
end Go.Proofs.YtdilncefhfbgeaaGreatDoor
namespace Go.Proofs.YtdilncefhfbgeaaGreatDoor

theorem sum_texts : ∀ T : List Tok, (T.map (fun t => t.text.length)).sum ≤ (wholeL T).length
  | [] => by simp [wholeL]
  | t :: T => by
    have := sum_texts T
    unfold wholeL at this ⊢
    simp only [List.map_cons, List.sum_cons, List.flatMap_cons, List.length_append]
    omega
theorem sumTx_range (T : List Tok) : sumTx T (List.range T.length) = (T.map (fun t => t.text.length)).sum := by
  unfold sumTx
  congr 1
  apply List.ext_getElem
  · simp
  · intro i h1 h2
    simp only [List.length_map, List.length_range] at h1
    simp [tkT, h1]
theorem le_sum8 : ∀ {L : List Nat} {a : Nat}, a ∈ L → a ≤ L.sum
  | [], a, h => by simp at h
  | b :: L, a, h => by
    rw [List.sum_cons]
    rcases List.mem_cons.1 h with rfl | h
    · omega
    · have := le_sum8 h; omega
/-- What is known of a formula's expression where its text is not too long. -/
structure LimE (x : Ex) : Prop where
  small : allS x
  dump : (dmpE x).length ≤ 1000000
  cnt : cntE x ≤ 1000000
  size : sizE x ≤ 1000000
theorem lim_form {l : List UInt8} {D : Int} (hl : l.length ≤ 2000) (h : ReadF l D true) (hN : (nodesQ l D true).length ≤ 2 * (allE l).1.length) : LimE (formE l D) := by
  have hlen := len_all h.lex
  obtain ⟨t, i, ht, h1, h2⟩ := alone_one h
  have hf : formE l D = axT (allE l).1 t := by unfold formE; rw [ht, axTs, if_pos h1]; rfl
  have hsz : szR t ≤ (nodesQ l D true).length := by
    have hNN : nodesQ l D true = post 0 (.nd 18 (treeT (allE l).1 D.toNat true).1) := rfl
    have hlen : (nodesQ l D true).length = szR (.nd 18 (treeT (allE l).1 D.toNat true).1) := by rw [hNN, post_len]
    rw [hlen, ht]
    simp only [szR, szRs]; omega
  have hlv := tree_leaves h.lex D.toNat true h.ok
  rw [ht] at hlv
  simp only [lvTs] at hlv
  have hs1 : sumTx (allE l).1 (lvT t) ≤ l.length := by
    have e1 := sumTx_append (allE l).1 (lvT t) (lvT (.lf i) ++ [])
    rw [hlv, sumTx_range] at e1
    have e2 := sum_texts (allE l).1
    rw [whole_all h.lex] at e2
    omega
  have hcs := cntE_sizE (axT (allE l).1 t)
  have hss := sizE_axT (allE l).1 t
  have hdd := dmpE_axT (allE l).1 t
  rw [hf]
  refine ⟨allS_axT (allE l).1 (fun k hk => ?_) t, by omega, by omega, by omega⟩
  have e2 := sum_texts (allE l).1
  rw [whole_all h.lex] at e2
  have e3 : k.text.length ≤ ((allE l).1.map (fun t => t.text.length)).sum := le_sum8 (List.mem_map.2 ⟨k, hk, rfl⟩)
  omega
end Go.Proofs.YtdilncefhfbgeaaGreatDoor
namespace Go.Proofs.YtdilncefhfbgeaaGreatDoor
open Go.RowKit

theorem push_kid7 {wr w7 wa w9 W9 : World} {B b2 base nv cv g9 n9 cap9 : Nat} {pv : Option Addr} {rows : List (List Value)} {q : List Value} {ks : List Ex} {x : Ex} {u : Value} (hw : B ≤ wr.heap.size) (hO : OwnG 7 68 wr base (.slice pv nv cv) rows) (hb2 : b2 < base) (hb2r : b2 < wr.heap.size)
    (hLS : LsR (fun k => B ≤ k ∧ k < wr.heap.size ∧ k ≠ b2 ∧ (Value.slice pv nv cv).ownBlock ≠ some k) wr ks rows) (hg7 : wr.grownBy w7 none) (hq : RAt (fun k => wr.heap.size ≤ k) w7 x q) (hga : w7.grownBy wa none) (hsa : wa.heap.size = w7.heap.size + 1)
    (hg9 : wa.grownBy w9 (Value.slice pv nv cv).ownBlock) (hl9 : (Value.slice pv nv cv).ownBlock = some g9 ∨ g9 = w7.heap.size + 1) (hf : (w9.setCell ⟨b2, 5, none⟩ u).grownBy W9 none) :
    LsR (fun k => B ≤ k ∧ k < W9.heap.size ∧ k ≠ b2 ∧ (Value.slice (some ⟨g9, 0, none⟩) n9 cap9).ownBlock ≠ some k) W9 (ks ++ [x]) (rows ++ [q]) := by
  have hat := OwnG.at hO
  have s7 := hg7.size
  have s9 := hg9.size
  have sf := hf.size
  have sc : (w9.setCell ⟨b2, 5, none⟩ u).heap.size = w9.heap.size := by simp [World.setCell]
  have fr : Fr2 (fun k => (Value.slice pv nv cv).ownBlock = some k ∨ k = b2) w7 W9 :=
    ((Fr2.none hga).trans ((Fr2.of hg9 (fun k e => .inl e)).trans ((Fr2.setCell (Fr2.refl _ _) (.inr rfl) u).trans (Fr2.none hf))))
  have hne : ∀ k, k < w7.heap.size → (Value.slice pv nv cv).ownBlock ≠ some k → (Value.slice (some ⟨g9, 0, none⟩) n9 cap9).ownBlock ≠ some k := fun k hk h1 e => by
    have e : g9 = k := Option.some.inj (show some g9 = some k from e)
    rcases hl9 with h | h
    · exact h1 (by rw [h, e])
    · omega
  have hno : ∀ k, wr.heap.size ≤ k → (Value.slice pv nv cv).ownBlock ≠ some k := fun k hk e => by have := hat _ e; omega
  refine Lr_snoc ?_ ?_
  · have h1 := RAt.same fr (fun k (hk : wr.heap.size ≤ k ∧ k < w7.heap.size) => fun e => by
      rcases e with e | e
      · exact hno k hk.1 e
      · omega) hq.bound
    exact RAt.mono (fun k hk => ⟨by omega, by omega, by omega, hne k hk.2 (hno k hk.1)⟩) h1
  · have h1 := LsR.same fr (fun k (hk : B ≤ k ∧ k < wr.heap.size ∧ k ≠ b2 ∧ (Value.slice pv nv cv).ownBlock ≠ some k) => fun e => by
      rcases e with e | e
      · exact hk.2.2.2 e
      · exact hk.2.2.1 e) (hLS.kept hg7)
    exact LsR.mono (fun k hk => ⟨hk.1, by omega, hk.2.2.1, hne k (by omega) hk.2.2.2⟩) h1

end Go.Proofs.YtdilncefhfbgeaaGreatDoor
