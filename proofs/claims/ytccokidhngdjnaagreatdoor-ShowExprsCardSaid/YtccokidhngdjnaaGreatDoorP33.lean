/- Lemmas. -/
import Derived.Test.YtccokidhngdjnaaGreatDoorP11
import Derived.Test.YtccokidhngdjnaaGreatDoorP46
set_option linter.unusedVariables false
set_option linter.unusedSimpArgs false
namespace Go.Proofs.YtccokidhngdjnaaGreatDoor
open Go.RowKit

theorem ownL_append : ∀ a b : List Tr, ownL (a ++ b) = ownL a ++ ownL b
  | [], b => rfl
  | .lf i :: a, b => by simp [ownL, ownL_append a b]
  | .nd k l :: a, b => by simp [ownL, ownL_append a b]
theorem ownL_len : ∀ l : List Tr, (ownL l).length ≤ l.length
  | [] => Nat.le_refl _
  | .lf i :: a => by have := ownL_len a; simp only [ownL, List.length_cons]; omega
  | .nd k l :: a => by have := ownL_len a; simp only [ownL, List.length_cons]; omega
theorem take_snoc {α : Type} {l : List α} {j : Nat} {t : α} (h : l[j]? = some t) : l.take (j + 1) = l.take j ++ [t] := by
  rw [List.take_add_one, h]; rfl
theorem ownL_lf {l : List Tr} {j i : Nat} (h : l[j]? = some (.lf i)) : ownL (l.take (j + 1)) = ownL (l.take j) ++ [i] := by
  rw [take_snoc h, ownL_append]; rfl
theorem ownL_nd {l : List Tr} {j k : Nat} {m : List Tr} (h : l[j]? = some (.nd k m)) : ownL (l.take (j + 1)) = ownL (l.take j) := by
  rw [take_snoc h, ownL_append]; simp [ownL]
theorem lv_mem : ∀ {l : List Tr} {j i : Nat}, l[j]? = some (.lf i) → i ∈ lvTs l
  | [], j, i, h => by simp at h
  | t :: l, j, i, h => by
    simp only [lvTs, List.mem_append]
    match j, h with
    | 0, h => simp at h; subst h; left; simp [lvT]
    | j + 1, h => right; exact lv_mem (by simpa using h)
theorem kOks_get : ∀ {l : List Tr} {j : Nat} {t : Tr}, kOks l → l[j]? = some t → kOk t
  | [], j, t, _, h => by simp at h
  | u :: l, j, t, hk, h => by
    simp only [kOks] at hk
    match j, h with
    | 0, h => simp at h; subst h; exact hk.1
    | j + 1, h => exact kOks_get hk.2 (by simpa using h)

def OwnTok (T : List Tok) (l : List Tr) (w : World) (e : Ending) (w' : World) : Prop :=
  w.grownBy w' none ∧ ∃ p c, e = .returned (.slice p (ownL l).length c) ∧ TAt w' p ((ownL l).map (tkT T))

set_option maxRecDepth 100000 in
set_option maxHeartbeats 8000000 in
theorem aTokens_c {T : List Tok} {N : List Nd} {K : Kf} (hT : T.length ≤ 150000) (hN : N.length ≤ 150000) {n : Nat} {kd : Int} {tk : Int} {ks : List Int} {l : List Tr} (hx : N[n]? = some ⟨kd, tk, ks⟩) (hkt : KT N n ks l) (hko : kOks l) (hlv : ∀ i ∈ lvTs l, i < T.length) (hlm : l.length ≤ 150000) (pt pn : Option Addr) (ct cn : Nat) (w : World) (ht : TAt w pt T) (h : NodesAt w pn N K) :
    Calls Tryz.prog 66 #[.agg #[.slice pt T.length ct, .slice pn N.length cn], .int .i64 (n : Int)] w (OwnTok T l w) := by
  have hgA := World.grownBy_alloc w (.cells #[.slice pt T.length ct, .slice pn N.length cn] 85) none
  have hA := heap_alloc_new w (.cells #[.slice pt T.length ct, .slice pn N.length cn] 85)
  have HKI := Lib.hid (fun (n : Nat) (x : Nd) W (hx : N[n]? = some x) h => kind_r (K := K) hN hx pt pn T.length ct cn W h)
  have HKD := Lib.hid (fun W h => kids_r (K := K) hN hx pt pn T.length ct cn W h)
  have HTK := Lib.hid (fun (n i : Nat) W (hx : N[n]? = some ⟨19, (i : Int), []⟩) (hi : i < T.length) h1 h2 => token_r (K := K) hT hN hx hi pt pn ct cn W h1 h2)
  have HKV := Lib.hid (fun W (h : NodesAt W pn N K) => (h.2 n _ hx))
  have HT := Lib.hid (ht.kept hgA); have HN := Lib.hid (h.kept hgA); have HKT := Lib.hid hkt; have HKO := Lib.hid hko; have HLV := Lib.hid hlv
  have hkl := hkt.1
  obtain ⟨b, hb⟩ : ∃ b, w.heap.size = b := ⟨_, rfl⟩
  have HBW := Lib.hid hb
  rw [hb] at hA
  obtain ⟨W, hW⟩ : ∃ W, w.alloc (.cells #[.slice pt T.length ct, .slice pn N.length cn] 85) = W := ⟨_, rfl⟩
  rw [hW] at hA hgA HT HN
  obtain ⟨mt, hmt⟩ : ∃ mt, T.length = mt := ⟨_, rfl⟩
  obtain ⟨mn, hmn⟩ : ∃ mn, N.length = mn := ⟨_, rfl⟩
  obtain ⟨M, hM⟩ : ∃ M, ks.length = M := ⟨_, rfl⟩
  have HM := Lib.hid hM
  rw [hmt] at hA hW HKI HKD HTK ⊢
  rw [hmn] at hA hW HKI HKD HTK ⊢
  rw [hM] at HKD hkl
  have hMm : M ≤ 150000 := by omega
  have HKL := Lib.hid hkl
  have HA := Lib.hid hA; have HGA := Lib.hid hgA
  have HTL := Lib.hid hmt
  obtain ⟨a0, a1, a2⟩ := cells2 hA
  have HKS : Hid (K n = ((K n).1, (K n).2)) := Lib.hid rfl
  generalize (K n).1 = pk at *
  generalize (K n).2 = ck at *
  clear ht h hkt hko hlv hx hA hgA hmt hmn hM hT hN hkl hlm
  go_enter Tryz.func66, Tryz.ntmps66
  go_wp2_with fail
  try rw [hb]
  clear hb hW
  refine (HKD.out _ HN.out).mono ?_
  rintro e w1 ⟨rfl, hg1⟩
  have HG1 := Lib.hid hg1
  have HT := Lib.hid (HT.out.kept hg1); have HN := Lib.hid (HN.out.kept hg1)
  have HA := Lib.hid (bx hg1 HA.out)
  have hA := HA.out
  obtain ⟨a0, a1, a2⟩ := cells2 hA
  clear hA hg1
  go_wp2_with fail
  go_loopw [5, 12] (fun ov iv wr => ∃ j : Nat, j ≤ M ∧ iv = .int .i64 (j : Int) ∧ Hid (OwnT 123 wr w1.heap.size ov ((ownL (l.take j)).map (tkT T))) ∧ Hid (Below w1.heap.size w1 wr)) (fun _ iv _ => M - (intOf iv).toNat)
  case atStart => exact ⟨0, Nat.zero_le _, rfl, Lib.hid (by simpa [ownL] using OwnT.nil _ _ _), Below.refl _ _⟩
  case round =>
    obtain ⟨j, hj, rfl, HO, HB⟩ := hrel
    have HGW : Hid (w1.grownBy wr none) := Lib.hid (below_gb HB.out)
    have HAr := Lib.hid (bx HGW.out HA.out)
    have hAr := HAr.out
    obtain ⟨a0, a1, a2⟩ := cells2 hAr
    have HNr := Lib.hid (HN.out.kept HGW.out); have HTr := Lib.hid (HT.out.kept HGW.out)
    clear hAr
    by_cases hlt : j < M
    · obtain ⟨t, ht⟩ : ∃ t, l[j]? = some t := ⟨l[j]'(by have := HKL.out; omega), List.getElem?_eq_getElem _⟩
      obtain ⟨k, hk, hta, hkn⟩ := HKT.out.2 j t ht
      obtain ⟨g, off, rfl, hgl, ck0⟩ := kid_at (HKV.out _ HNr.out) hk
      have HLL := Lib.hid (ownL_len (l.take j))
      have y1 : (0 : Int) ≤ (j : Int) := by omega
      have y2 : (j : Int) < (M : Int) := by omega
      have y3 : decide (j < M) = true := decide_eq_true hlt
      have y4 : decide ((j : Int) < (M : Int)) = true := decide_eq_true y2
      cases t with
      | lf i =>
        obtain ⟨n', hn', hnx⟩ := hta.lf
        have hn' : k = n' := by omega
        subst hn'
        have hil := HLV.out i (lv_mem ht)
        rw [HTL.out] at hil
        have HK1 := Lib.hid (HKI.out k _ wr hnx HNr.out)
        have HK2 := Lib.hid (fun W h1 h2 => HTK.out k i W hnx hil h1 h2)
        have HTE := Lib.hid (ownL_lf ht)
        clear ht hk hta hkn hnx hil
        go_wp2_with fail
        refine HK1.out.mono ?_
        rintro e w2 ⟨rfl, hg2⟩
        have hA2 := bx hg2 HAr.out
        have HA2 := Lib.hid hA2
        obtain ⟨a0, a1, a2⟩ := cells2 hA2
        have HG2 := Lib.hid hg2
        have HT2 := Lib.hid (HTr.out.kept hg2); have HN2 := Lib.hid (HNr.out.kept hg2)
        clear hA2 hg2 HK1
        go_wp2_with fail
        refine (HK2.out _ HT2.out HN2.out).mono ?_
        rintro e w3 ⟨rfl, hg3⟩
        have HG3 := Lib.hid (gb_trans HG2.out hg3)
        have HO3 := Lib.hid (HO.out.kept HG3.out)
        have HB3 := Lib.hid (Below.trans2 HB.out (Below.gb HG3.out HB.out.size))
        clear hg3 HK2
        unfold tokVal
        have HTV : Hid (tokV (tkT T i) = [.int .i64 ((tkT T i).kind : Int), strV (tkT T i).lead, strV (tkT T i).text, .int .i64 ((tkT T i).pos : Int)]) := Lib.hid rfl
        unfold strV at HTV ⊢
        have HLM : Hid (((ownL (l.take j)).map (tkT T)).length ≤ 1000000) := Lib.hid (by have h1 := HLL.out; have h2 := List.length_take (i := j) (l := l); rw [List.length_map]; omega)
        go_wp2_with (at_builtin; go_loud (refine wpList_appT (t := 56) Tryz.underlying56 infoT rfl (by decide) rfl _ _ rfl w1.heap.size ((ownL (l.take j)).map (tkT T)) (tkT T i) _ _ _ _ HTV.out u5 rfl HO3.out _ rfl rfl HLM.out HB3.out.size ?_))
        intro g' cap' w4 hO4 hB4
        have HO4 : Hid (OwnT 123 w4 w1.heap.size (.slice (some ⟨g', 0, none⟩) ((ownL (l.take j)).length + 1) cap') ((ownL (l.take (j + 1))).map (tkT T))) := Lib.hid (by rw [HTE.out, List.map_append]; exact hO4)
        have HB4 := Lib.hid (Below.trans2 HB3.out hB4)
        clear hO4 hB4
        go_wp2_with fail
        go_roundw
        case rel => exact ⟨j + 1, by omega, by go_num, HO4, HB4⟩
        case measure => simp [intOf]; omega
      | nd m q =>
        obtain ⟨n', ks', hn', hnx, -⟩ := hta.nd
        have hn' : k = n' := by omega
        subst hn'
        have hkd := kOks_get HKO.out ht
        simp only [kOk] at hkd
        have hne : ((m : Int) == 19) = false := beq_eq_false_iff_ne.2 (by omega)
        have hne' : (m == 19) = false := beq_eq_false_iff_ne.2 (by omega)
        have HK1 := Lib.hid (HKI.out k _ wr hnx HNr.out)
        have HTE := Lib.hid (ownL_nd ht)
        clear ht hk hta hkn hnx hkd
        go_wp2_with fail
        refine HK1.out.mono ?_
        rintro e w2 ⟨rfl, hg2⟩
        have HG2 := Lib.hid hg2
        clear hg2 HK1
        go_wp2_with fail
        go_roundw
        case rel => exact ⟨j + 1, by omega, by go_num, Lib.hid (by rw [HTE.out]; exact HO.out.kept HG2.out), Lib.hid (Below.trans2 HB.out (Below.gb HG2.out HB.out.size))⟩
        case measure => simp [intOf]; omega
    · obtain rfl : j = M := by omega
      have hO := HO.out
      rw [List.take_of_length_le (by have := HKL.out; omega)] at hO
      obtain ⟨p, c, rfl, hta, -, -, -⟩ := hO.is
      have HTA := Lib.hid hta
      have HLE : Hid (((ownL l).map (tkT T)).length = (ownL l).length) := Lib.hid (List.length_map _)
      rw [HLE.out]
      have HGE := Lib.hid (gb_trans (gb_trans HGA.out HG1.out) HGW.out)
      have HPE : Hid (∀ w', w.grownBy w' none → TAt w' p ((ownL l).map (tkT T)) → OwnTok T l w (.returned (.slice p (ownL l).length c)) w') := Lib.hid (fun w' h1 h2 => ⟨h1, p, c, rfl, h2⟩)
      generalize (ownL l).length = L at *
      clear hta hO
      go_wp2_with fail
      go_ret
      exact HPE.out _ HGE.out HTA.out

section
variable {b bb : Nat} {T : List Tok} {D n : Nat} {A0 : Nat → Prop} {vn0 : Value} {w0 w w' : World} {s : St} {u : Nat} {N : List Nd} {vn : Value} {L : List (Value × Th)}
theorem KX.setIn (hk : KX b bb T D n A0 vn0 w0 w s u N vn L) (v : Bool) : KX b bb T D n A0 vn0 w0 (w.setCell ⟨b, 7, none⟩ (.bool v)) (setIn v s) u N vn L := by
  obtain ⟨A, h1, h2, h3, h4, h5⟩ := hk
  have hf : Fr2 (Self b) w (w.setCell ⟨b, 7, none⟩ (.bool v)) := (Fr2.refl _ _).setCell (mine b) _
  exact KX.go h2 h3 h4 h5 h1.lt (h1.turn (s' := Go.Proofs.YtccokidhngdjnaaGreatDoor.setIn v s) hf ((set_cells (i := 7) h1.box).trans rfl) h1.ok) (Step.self hf)
theorem KX.froz (hk : KX b bb T D n A0 vn0 w0 w s u N vn L) : ∀ o, w.frozen? ⟨b, o, none⟩ = false := by
  obtain ⟨A, h1, -⟩ := hk
  exact (cells10 h1.box).2.2.2.2.2.2.2.2.2.2
end
section
variable (b bb : Nat) (T : List Tok) (D : Nat)
--GEN

end
end Go.Proofs.YtccokidhngdjnaaGreatDoor
namespace Go.Proofs.YtccokidhngdjnaaGreatDoor

theorem tok_of : ∀ (f : Nat) (l : List UInt8) (p : Nat) (t : Tok), t ∈ (lexG f l p).1 → ∃ l' p', t = tokE l' p'
  | 0, l, p, t, h => by simp [lexG] at h
  | f + 1, l, p, t, h => by
    unfold lexG at h
    split at h
    · simp at h
    split at h
    · simp at h; exact ⟨l, p, h⟩
    · rcases List.mem_cons.1 h with rfl | h
      · exact ⟨l, p, rfl⟩
      · exact tok_of f _ _ t h
theorem ks_let : ∀ x ∈ KS, (x.head?.any isLet) = true → keysL.contains x = true := by decide
theorem ks_dig : ∀ x ∈ KS, (x.head?.any isDig) = false := by decide
theorem ks_nil : ([] : List UInt8) ∉ KS := by decide
theorem take_run (p : UInt8 → Bool) (a : UInt8) (r : List UInt8) (h : p a = true) : ((a :: r).take (runN p (a :: r))).head? = some a := by
  have : runN p (a :: r) = runN p r + 1 := by simp [runN, h]
  rw [this]; rfl
theorem first_keys (m : List UInt8) (h : m.take (firstE m).2 ∈ KS) : (firstE m).1 = 2 ∨ (firstE m).1 = 4 := by
  cases m with
  | nil => exact absurd h ks_nil
  | cons a r =>
    rw [firstE_cons] at h ⊢
    by_cases h1 : isLet a = true
    · rw [if_pos h1] at h ⊢
      have hw : inW a = true := by unfold inW; rw [h1]; rfl
      have hh := take_run inW a r hw
      have := ks_let _ h (by simp only [] at hh ⊢; rw [hh]; simpa using h1)
      simp only [] at this ⊢
      rw [if_pos this]; exact .inl rfl
    · rw [if_neg h1] at h ⊢
      by_cases h2 : isDig a = true
      · rw [if_pos h2] at h
        have hh := take_run isDig a r h2
        have := ks_dig _ h
        simp only [] at hh this
        rw [hh] at this
        simp [h2] at this
      · rw [if_neg h2] at h ⊢
        by_cases h3 : 0 < signN (a :: r)
        · rw [if_pos h3]; exact .inr rfl
        · rw [if_neg h3] at h
          exact absurd h ks_nil
theorem short_whole {L : List Tok} {n : Nat} (h : (wholeL L).length ≤ n) (hn : n ≤ 1000000) : Short L := fun t ht => by
  obtain ⟨k, hk⟩ := List.getElem?_of_mem ht
  have h1 := wholeL_next hk
  have h2 := wholeL_take L (k + 1)
  rw [h1, List.length_append, List.length_append] at h2
  omega
theorem tokC_all {l : List UInt8} (h : (allE l).2.1 = 0) (hl : l.length ≤ 30000) : TokC (allE l).1 := by
  have h1 := len_all h
  refine ⟨by omega, short_whole (n := 30000) (by rw [whole_all h]; exact hl) (by omega), (end_all h).1, fun i t ht hk => ?_⟩
  obtain ⟨l', p', rfl⟩ := tok_of _ _ _ t (List.mem_of_getElem? ht)
  exact first_keys _ hk
end Go.Proofs.YtccokidhngdjnaaGreatDoor
