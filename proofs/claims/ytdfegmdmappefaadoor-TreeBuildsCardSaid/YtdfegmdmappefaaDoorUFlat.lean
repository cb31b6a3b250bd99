/- The law on flat trees, walked. -/
import Derived.Test.YtdfegmdmappefaaDoorUAnc
namespace Go.Proofs.YtdfegmdmappefaaDoor
open Go.RowKit

theorem lexG_pos : ∀ (f : Nat) (l : List UInt8) (p : Nat), l.length < f → (lexG f l p).2.1 = 0 → 0 < (lexG f l p).1.length
  | 0, l, p, h, _ => by omega
  | f + 1, l, p, h, h0 => by
    by_cases hw : wrongE (tokE l p).kind (tokE l p).text = 0
    · by_cases h5 : (tokE l p).kind = 5
      · rw [lexG_end hw h5]; simp
      · rw [lexG_more hw h5]; simp
    · rw [lexG_fault hw] at h0
      exact absurd h0 hw
theorem len_pos {l : List UInt8} (h : (allE l).2.1 = 0) : 0 < (allE l).1.length := lexG_pos _ l 0 (by omega) h
theorem whole_short {L : List Tok} {n : Nat} (h : (wholeL L).length ≤ n) (hn : n ≤ 1000000) : Short L := fun t ht => by
  have : ∀ L : List Tok, t ∈ L → t.lead.length + t.text.length ≤ (wholeL L).length := by
    intro L
    induction L with
    | nil => intro h; simp at h
    | cons a L ih =>
      intro h
      have h1 : wholeL (a :: L) = a.lead ++ a.text ++ wholeL L := rfl
      rw [h1, List.length_append, List.length_append]
      rcases List.mem_cons.1 h with e | h
      · subst e; omega
      · have := ih h; omega
  have := this L ht
  omega

theorem TAt.below {w w' : World} {p : Option Addr} {l : List Tok} {B : Nat} (h : TAt w p l) (hb : Below B w w') (hlt : l ≠ [] → ∀ a, p = some a → a.block < B) : TAt w' p l :=
  h.keptF (Fr2.ofBelow hb) fun h0 a ha e => by have := hlt h0 a ha; omega

/-- A builder whose nodes have no kids, beside turns of other blocks. -/
theorem BldV.keptE {S : Nat → Prop} {w w' : World} {b : Nat} {l : List Tok} {u : Nat} {N : List Nd} {vn : Value} (h : BldV w b l u N vn) (hf : Fr2 S w w') (hS : ∀ k, k ≤ b → ¬ S k) (hv : ∀ k, vn.ownBlock = some k → ¬ S k) (hE : ∀ x ∈ N, x.kids = []) : BldV w' b l u N vn := by
  obtain ⟨pt, ct, K, h⟩ := h
  exact ⟨pt, ct, K, h.keptF hf hS hv fun i x hx hn => absurd (hE x (List.mem_of_getElem? hx)) hn⟩

theorem leaves_bare (n : Nat) : ∀ x ∈ leavesN n, x.kids = [] := fun x hx => by
  unfold leavesN at hx
  obtain ⟨i, -, rfl⟩ := List.mem_map.1 hx
  rfl

set_option maxRecDepth 100000 in
set_option maxHeartbeats 16000000 in
theorem flat_yes (s : ByteArray) (kind : Int) (w : World) (hs : s.size ≤ 500) (hk1 : 1 ≤ kind) (hk2 : kind ≤ 18) (hla : LaidE w) : Calls Tryd.prog 6 #[.string s, .int .i64 kind] w (ValPost (.bool true) w) := by
  have d1 : decide ((500 : Int) < (s.size : Int)) = false := decide_eq_false (by omega)
  have d1' : decide (500 < s.size) = false := decide_eq_false (by omega)
  have d2 : decide (kind < 1) = false := decide_eq_false (by omega)
  have d3 : decide (18 < kind) = false := decide_eq_false (by omega)
  have HLA := Lib.hid hla
  have HBIG : Hid (¬ 65536 < s.data.toList.length) := Lib.hid (by rw [list_len]; omega)
  have HLX := Lib.hid (fun W (h : LaidE W) => Lex_c s W (by omega) h)
  have HS := Lib.hid hs
  obtain ⟨B, hB⟩ : ∃ B, w.heap.size = B := ⟨_, rfl⟩
  have HBW := Lib.hid hB
  clear hla hs hB
  go_enter Tryd.func6, Tryd.ntmps6
  go_wp2_with fail
  refine (anchor6_c _ HLA.out).mono ?_
  rintro e w0 ⟨rfl, hg0⟩
  have HG0 := Lib.hid hg0
  clear hg0
  go_wp2_with fail
  refine (HLX.out w0 (HLA.out.kept HG0.out)).mono ?_
  rintro e w1 ⟨hg1, h1⟩
  rw [if_neg HBIG.out] at h1
  have HG1 := Lib.hid (gb_trans HG0.out hg1)
  clear hg1 d1 d1' d2 d3 HLX HLA HG0
  obtain ⟨n, hn⟩ : ∃ n, (allE s.data.toList).2.1 = n := ⟨_, rfl⟩
  by_cases hn0 : n = 0
  · subst hn0
    rw [hn, if_neg (by simp)] at h1
    obtain ⟨q, c, rfl, hq1, hl1, hm1⟩ := h1
    obtain ⟨L, hL⟩ : ∃ L, (allE s.data.toList).1 = L := ⟨_, rfl⟩
    have hw := whole_all hn
    have hll := len_all hn
    have hlp := len_pos hn
    rw [hL] at hq1 hw hll hlp ⊢
    rw [list_len] at hll
    have hsh : Short L := whole_short (n := 500) (by rw [hw, list_len]; exact HS.out) (by omega)
    have hL5 : (wholeL L).length ≤ 1000000 := by rw [hw, list_len]; have := HS.out; omega
    obtain ⟨t0, ht0⟩ : ∃ t, L[0]? = some t := ⟨L[0], List.getElem?_eq_getElem _⟩
    have HT0 := Lib.hid ht0
    have HW := Lib.hid hw; have HQ1 := Lib.hid hq1; have HSH := Lib.hid hsh; have HL5 := Lib.hid hL5
    obtain ⟨m, hm⟩ : ∃ m, L.length = m := ⟨_, rfl⟩
    have HM := Lib.hid hm
    rw [hm] at hll hlp
    have hm500 : m ≤ 501 := by have := HS.out; omega
    clear hn hL hw hq1 hl1 hm1 hsh ht0 hL5 hll
    rw [hm]
    clear hm
    go_wp2_with fail
    have hga := World.grownBy_alloc w1 (.cells #[.int .i64 0, .int .i64 0] 47) none
    generalize w1.alloc (.cells #[.int .i64 0, .int .i64 0] 47) = W1 at *
    have HQ2 := Lib.hid (HQ1.out.kept hga)
    have HB2 := Lib.hid (show Below B w W1 from Below.gb (gb_trans HG1.out hga) (by rw [HBW.out]; exact Nat.le_refl _))
    clear hga HQ1 HG1
    have HNB := Lib.hid (NewBuilder_c L q c W1 (by rw [HM.out]; omega) HSH.out HQ2.out)
    rw [HM.out] at HNB
    refine HNB.out.mono ?_
    rintro e W2 ⟨b, rfl, hbb, hbl, hg2⟩
    have hBb : B ≤ b := by have := HB2.out.size; have := HBW.out; omega
    have HL2 := Lib.hid hbl
    have HB3 := Lib.hid (Below.trans2 HB2.out (Below.gb hg2 (by have := HB2.out.size; have := HBW.out; omega)))
    have HQ3 := Lib.hid (HQ2.out.kept hg2)
    have HQB : Hid (L ≠ [] → ∀ a, q = some a → a.block < b) := Lib.hid (fun h0 a ha => by
      obtain ⟨g, off, e, hl, -⟩ := HQ2.out.resolve_left h0
      rw [ha] at e; cases e
      simp at hl ⊢; omega)
    have hb2 : b < W2.heap.size := (lit_far hbl).1
    clear hbl hbb hg2 HB2 HQ2 HNB
    go_wp2_with fail
    go_loopw [8, 37] (fun kv v wr => ∃ (k : Nat) (vn : Value), k ≤ m ∧ v = .int .i64 k ∧ Hid (OwnL wr (b + 1) kv (rangeI k)) ∧ Hid (BldV wr b L k (leavesN k) vn) ∧ Hid (Sep kv vn) ∧ Hid (Below b W2 wr)) (fun _ v _ => m - (intOf v).toNat)
    case atStart => exact ⟨0, _, Nat.zero_le _, rfl, Lib.hid (OwnL.nil _ _), HL2, Lib.hid (fun k h => by cases h), Lib.hid (Below.refl _ _)⟩
    case round =>
      obtain ⟨k, vn, hk, rfl, HK, HBV, HSP, HB⟩ := hrel
      by_cases hlt : k < m
      · have d1 : decide ((k : Int) < (m : Int)) = true := decide_eq_true (by omega)
        have d1' : decide (k < m) = true := decide_eq_true hlt
        have HLF := Lib.hid (Leaf_some b L k (leavesN k) vn wr (by rw [HM.out]; omega) (by rw [HM.out]; exact hlt) (by rw [leavesN_len]; omega) HBV.out)
        have HRL : Hid ((one (intsV (rangeI k))).length = k) := Lib.hid (by rw [one_len, intsV_len, rangeI_len])
        have HLE : Hid ((one (intsV (rangeI k))).length ≤ 1000000) := Lib.hid (by rw [HRL.out]; omega)
        go_wp2_with fail
        refine HLF.out.mono ?_
        rintro e w3 ⟨he, vn3, hb3, hf3, hs3⟩
        rw [leavesN_len] at he
        subst he
        have HBV3 : Hid (BldV w3 b L (k + 1) (leavesN (k + 1)) vn3) := Lib.hid (by rw [leavesN_succ]; exact hb3)
        have HK3 : Hid (OwnL w3 (b + 1) u8 (rangeI k)) := Lib.hid (OwnG.keptF HK.out hf3 (fun j e h => by
          rcases h with h | h
          · have := (OwnG.at HK.out j e).1; omega
          · exact HSP.out j e h))
        have HSP3 : Hid (Sep u8 vn3) := Lib.hid (fun j h1 h2 => by
          rcases hs3 j h2 with h | h
          · exact HSP.out j h1 h
          · have := (OwnG.at HK.out j h1).2; omega)
        have HBB3 := Lib.hid (turn_below HBV.out hf3 (Nat.le_refl _) HB.out)
        have hb3s : b + 1 ≤ w3.heap.size := by have := (lit_far hb3).1; omega
        clear hb3 hf3 hs3 HK HBV HSP HB HLF
        go_wp2_with (at_builtin; go_loud (refine wpList_appGl (s := 1) (t := 45) (T := 3) (by decide) Tryd.underlying45 infoI rfl (by omega) rfl _ _ rfl (b + 1) (one (intsV (rangeI k))) [.int .i64 (k : Int)] rfl (by simp [Value.oneCell']) u8 rfl (OwnG.kept HK3.out (World.grownBy_alloc w3 _ none)) w3.heap.size _ rfl (heap_alloc_new w3 _) rfl HLE.out (by simp; omega) (w3.heap.size + 1) (by simp) ?_))
        intro g9 cap9 w9 hO9 hg9 hl9
        rw [HRL.out] at hO9 ⊢
        have HK9 : Hid (OwnL w9 (b + 1) (.slice (some ⟨g9, 0, none⟩) (k + 1) cap9) (rangeI (k + 1))) := Lib.hid (by rw [rangeI_succ]; exact OwnL.app hO9)
        have HBV9 : Hid (BldV w9 b L (k + 1) (leavesN (k + 1)) vn3) := Lib.hid ((HBV3.out.kept (World.grownBy_alloc w3 (.cells #[.int .i64 (k : Int)] 3) none)).keptE (Fr2.of (S := fun j => u8.ownBlock = some j) hg9 (fun j e => e)) (fun j hj e => by have := (OwnG.at HK3.out j e).1; omega) (fun j e h => HSP3.out j h e) (leaves_bare _))
        have HSP9 : Hid (Sep (.slice (some ⟨g9, 0, none⟩) (k + 1) cap9) vn3) := Lib.hid (fun j h1 h2 => by
          have h3 : g9 = j := by simpa [Value.ownBlock] using h1
          subst h3
          rcases hl9 with h | h
          · exact HSP3.out _ h h2
          · have := ((lit_far HBV3.out).2 _ h2).2; omega)
        have HBB9 := Lib.hid ((Below.trans2 HBB3.out (Below.gb (World.grownBy_alloc w3 (.cells #[.int .i64 (k : Int)] 3) none) (by omega))).grown hg9 (by simp; omega) (fun j e => by have := (OwnG.at HK3.out j e).1; omega))
        clear hO9 hg9 hl9 HK3 HBV3 HSP3 HBB3
        go_wp2_with fail
        go_roundw
        case rel => exact ⟨k + 1, vn3, by omega, by go_num, HK9, HBV9, HSP9, HBB9⟩
        case measure => (simp [intOf] <;> omega)
      · obtain rfl : k = m := by omega
        obtain ⟨p, ck, rfl, hv, -⟩ := HK.out.parts
        have HV := Lib.hid hv
        have HND := Lib.hid (Node_some b L k (leavesN k) vn kind (rangeI k) p ck wr (by rw [leavesN_len]; omega) (by rw [rangeI_len]; omega) HBV.out hv (okB_true fun j hj => by rw [leavesN_len]; exact rangeI_mem hj))
        rw [rangeI_len] at HND ⊢
        clear hv
        go_wp2_with fail
        refine HND.out.mono ?_
        rintro e w4 ⟨he, vn4, hb4, hf4, -⟩
        rw [leavesN_len] at he
        subst he
        have HBV4 : Hid (BldV w4 b L k (flatN k kind) vn4) := Lib.hid hb4
        have HBB4 := Lib.hid (turn_below HBV.out hf4 (Nat.le_refl _) HB.out)
        have hw4 : B ≤ w4.heap.size := by have := HBB4.out.size; have := HB3.out.size; have := HBW.out; omega
        clear hb4 hf4 HND HBV HK HSP HB HV
        have HDN := Lib.hid (Done_c b L k (flatN k kind) vn4 w4 (by rw [HM.out]; omega) HSH.out (by rw [flatN_len]; omega) (fun x hx => by
          obtain ⟨i, hi⟩ := List.getElem?_of_mem hx
          rcases flatN_get hi with ⟨-, rfl⟩ | ⟨-, rfl⟩
          · show 0 ≤ _; omega
          · show (rangeI k).length ≤ _; rw [rangeI_len]; omega) HBV4.out)
        go_wp2_with fail
        refine HDN.out.mono ?_
        rintro e w5 ⟨hg5, pt, ct, pn, cn, K, rfl, ht5, hct, hn5⟩
        have HL5k := HL5
        have HTX := Lib.hid (fun W h1 h2 => Text_c L t0 (flatN k kind) K (by rw [HM.out]; exact flatN_right hk1 hk2) (by rw [flatN_len]; omega) (by rw [HM.out]; omega) HL5.out HT0.out pt pn ct cn hct W h1 h2)
        have HRT := Lib.hid (fun W h => Right_c (flatN k kind) K (flatN_right hk1 hk2) (by rw [flatN_len]; omega) (by omega) pt pn ct cn W h)
        have HSW := Lib.hid (fun W h => Show_c L pt pn ct (k + 1) cn W (by rw [HM.out]; omega) HL5.out h)
        have HRO := Lib.hid (fun W => Root_c pt pn k ct (k + 1) cn (by omega) (by omega) W)
        rw [HM.out, flatN_len, Nat.add_sub_cancel] at HTX
        rw [flatN_len] at HRT
        rw [HM.out] at HSW
        rw [Nat.add_sub_cancel] at HRO
        have HLN := Lib.hid (fun W h => Leaf_none b L (flatN k kind) vn4 W (by rw [HM.out]; omega) h)
        rw [HM.out] at HLN
        rw [HM.out, flatN_len]
        obtain ⟨k1, hk1'⟩ : ∃ k1, k + 1 = k1 := ⟨_, rfl⟩
        rw [hk1'] at HTX HRT HSW HRO ⊢
        have hA := heap_alloc_new w5 (.cells #[.slice pt k ct, .slice pn k1 cn] 25)
        have hgA := World.grownBy_alloc w5 (.cells #[.slice pt k ct, .slice pn k1 cn] 25) none
        have HT5 := Lib.hid (ht5.kept hgA); have HN5 := Lib.hid (hn5.kept hgA)
        have HGA := Lib.hid (gb_trans hg5 hgA)
        clear hg5 ht5 hct hn5 HDN hk1'
        go_wp2_with fail
        generalize (w5.alloc (.cells #[.slice pt k ct, .slice pn k1 cn] 25)) = W8 at *
        obtain ⟨X, hX⟩ : ∃ X, w5.heap.size = X := ⟨_, rfl⟩
        rw [hX] at hA ⊢
        have HA := Lib.hid hA
        obtain ⟨a0, a1⟩ := cells_tree hA
        clear hA hgA hX
        go_region_with (first
          | (go_at_call 15; refine (HRO.out _).mono ?_; rintro e y2 ⟨rfl, hg2⟩; obtain ⟨c0, c1⟩ := cells_tree (bx hg2 HA.out); have HG2 := Lib.hid (gb_trans (show W8.grownBy _ none from (by repeat (first | with_reducible exact gb_refl _ _ | with_reducible refine gb_drew ?_))) hg2); clear hg2)
          | (go_at_call 11; refine (HTX.out _ (HT5.out.kept (gb_trans HG2.out (by repeat (first | with_reducible exact gb_refl _ _ | with_reducible refine gb_drew ?_)))) (HN5.out.kept (gb_trans HG2.out (by repeat (first | with_reducible exact gb_refl _ _ | with_reducible refine gb_drew ?_))))).mono ?_; rintro e y3 ⟨⟨r, rfl, hr⟩, hg3⟩; have HRR := Lib.hid hr; have HG3 := Lib.hid (gb_trans (gb_trans HG2.out (by repeat (first | with_reducible exact gb_refl _ _ | with_reducible refine gb_drew ?_))) hg3); clear hg3 hr))
        all_goals
          obtain ⟨d0, d1⟩ := cells_tree (bx HG3.out HA.out)
          go_wp2_with fail
          refine (HRT.out y3 (HN5.out.kept HG3.out)).mono ?_
          rintro e y4 ⟨rfl, hg4⟩
          have HG4 := Lib.hid (gb_trans HG3.out hg4)
          obtain ⟨f0, f1⟩ := cells_tree (bx HG4.out HA.out)
          clear hg4
          go_wp2_with fail
          refine (HSW.out y4 (HT5.out.kept HG4.out)).mono ?_
          rintro e y5 ⟨⟨s2, rfl, hs2⟩, hg5⟩
          have HG5 := Lib.hid (gb_trans HGA.out (gb_trans HG4.out hg5))
          have hss : s2 = s := by
            have h1 : s2.data.toList = s.data.toList := by rw [hs2, HW.out]
            rw [ba_data s2 h1]
          subst hss
          have HTF := Lib.hid (TAt.below HQ3.out (Below.trans2 HBB4.out (Below.gb HG5.out (by have := HBB4.out.size; omega))) HQB.out)
          obtain ⟨g, off, rfl, hgl, hc⟩ := HTF.out.resolve_left (fun e => by have h := HT0.out; rw [e] at h; simp at h)
          obtain ⟨-, c1', -, -⟩ := hc 0 t0 HT0.out
          obtain ⟨hwl, -⟩ := whole_lead HT0.out
          unfold strV at c1'
          obtain ⟨x, hx⟩ : ∃ x : ByteArray, (⟨t0.lead.toArray⟩ : ByteArray) = x := ⟨_, rfl⟩
          have hxl : x.data.toList = t0.lead := by rw [← hx]
          rw [hx] at c1'
          rw [Nat.zero_mul, Nat.add_zero] at c1'
          have hcat : x ++ r = s2 := by
            have h1 : (x ++ r).data.toList = s2.data.toList := by rw [app_list, hxl, HRR.out, hwl, hs2]
            rw [ba_data (x ++ r) h1]
          have hkp : 0 < k := hlp
          have hxr : x.size + r.size ≤ 500 := by
            have h1 := HS.out
            rw [← hcat] at h1
            simpa using h1
          have HCAT := Lib.hid hcat
          clear hg5 hs2 hc hx hxl hwl
          go_wp2_with fail
          refine (HLN.out y5 (HBV4.out.kept HG5.out)).mono ?_
          rintro e y6 ⟨rfl, hg6⟩
          have HG6 := Lib.hid (gb_trans HG5.out hg6)
          clear hg6
          go_wp2_with fail
          go_ret
          exact ⟨rfl, below_gb (by rw [HBW.out]; exact Below.trans2 (Below.trans2 HB3.out (HBB4.out.mono hBb)) (Below.gb HG6.out hw4))⟩
  · have d4 : ((n : Int) == 0) = false := beq_eq_false_iff_ne.2 (by omega)
    rw [hn, if_pos hn0] at h1
    subst h1
    clear hn
    go_wp2_with fail
    go_ret
    exact ⟨rfl, gb_alloc HG1.out _⟩

set_option maxRecDepth 100000 in
set_option maxHeartbeats 8000000 in
theorem flat_c (s : ByteArray) (kind : Int) (w : World) (hla : LaidE w) : Calls Tryd.prog 6 #[.string s, .int .i64 kind] w (ValPost (.bool true) w) := by
  by_cases hs : s.size ≤ 500
  · by_cases hk1 : 1 ≤ kind
    · by_cases hk2 : kind ≤ 18
      · exact flat_yes s kind w hs hk1 hk2 hla
      · have d1 : decide ((500 : Int) < (s.size : Int)) = false := decide_eq_false (by omega)
        have d1' : decide (500 < s.size) = false := decide_eq_false (by omega)
        have d2 : decide (kind < 1) = false := decide_eq_false (by omega)
        have d3 : decide (18 < kind) = true := decide_eq_true (by omega)
        go_enter Tryd.func6, Tryd.ntmps6
        go_wp2_with fail
        refine (anchor6_c _ hla).mono ?_
        rintro e w0 ⟨rfl, hg0⟩
        go_wp2_with fail
        go_ret
        exact ⟨rfl, hg0⟩
    · have d1 : decide ((500 : Int) < (s.size : Int)) = false := decide_eq_false (by omega)
      have d1' : decide (500 < s.size) = false := decide_eq_false (by omega)
      have d2 : decide (kind < 1) = true := decide_eq_true (by omega)
      go_enter Tryd.func6, Tryd.ntmps6
      go_wp2_with fail
      refine (anchor6_c _ hla).mono ?_
      rintro e w0 ⟨rfl, hg0⟩
      go_wp2_with fail
      go_ret
      exact ⟨rfl, hg0⟩
  · have d1 : decide ((500 : Int) < (s.size : Int)) = true := decide_eq_true (by omega)
    have d1' : decide (500 < s.size) = true := decide_eq_true (by omega)
    go_enter Tryd.func6, Tryd.ntmps6
    go_wp2_with fail
    refine (anchor6_c _ hla).mono ?_
    rintro e w0 ⟨rfl, hg0⟩
    go_wp2_with fail
    go_ret
    exact ⟨rfl, hg0⟩
end Go.Proofs.YtdfegmdmappefaaDoor
