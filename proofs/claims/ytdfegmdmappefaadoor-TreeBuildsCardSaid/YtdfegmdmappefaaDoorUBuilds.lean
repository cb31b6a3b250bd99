/- The law on what a builder makes, walked. -/
import Derived.Test.YtdfegmdmappefaaDoorUFlat
import Derived.Test.YtdfegmdmappefaaDoorUFar
namespace Go.Proofs.YtdfegmdmappefaaDoor
open Go.RowKit

def PairN (N : List Nd) : Prop := ∀ x ∈ N, x.kids = [] ∨ ∃ a c, x.kids = [a, c]
def KidFar (N : List Nd) (K : Kf) (vn : Value) : Prop := ∀ (i : Nat) (x : Nd), N[i]? = some x → x.kids ≠ [] → ∀ a, (K i).1 = some a → vn.ownBlock ≠ some a.block

theorem Nown.keptF {S : Nat → Prop} {w w' : World} {base : Nat} {vn : Value} {N : List Nd} {K : Kf} (h : Nown w base vn N K) (hf : Fr2 S w w') (hv : ∀ k, vn.ownBlock = some k → ¬ S k) (hk : ∀ (i : Nat) (x : Nd), N[i]? = some x → x.kids ≠ [] → ∀ a, (K i).1 = some a → ¬ S a.block) : Nown w' base vn N K :=
  ⟨h.own.keptF hf hv, fun i x hx => (h.kids i x hx).keptF hf fun h0 a ha => hk i x hx (intsV_ne h0) a ha, fun i x hx hn a ha => by
    obtain ⟨h1, h2, h3⟩ := h.khi i x hx hn a ha
    exact ⟨h1, Nat.lt_of_lt_of_le h2 hf.size, h3⟩⟩

/-- Nown.add, with what it says of the kids. -/
theorem Nown.addF {A : Nat → Prop} {w w5 : World} {base : Nat} {vn : Value} {N : List Nd} {K : Kf} (h : Nown w base vn N K) (hf : w.grownBy w5 vn.ownBlock) {g9 n9 cap9 : Nat} {x : Nd} {p : Option Addr} {c : Nat}
    (hown : OwnG 3 56 w5 base (.slice (some ⟨g9, 0, none⟩) n9 cap9) (ndsV K N ++ [[.int .i64 x.kind, .int .i64 x.tok, .slice p x.kids.length c]])) (hk : VAt w p (intsV x.kids)) (hkb : x.kids ≠ [] → ∀ a, p = some a → base ≤ a.block ∧ vn.ownBlock ≠ some a.block)
    (hl9 : vn.ownBlock = some g9 ∨ w.heap.size ≤ g9) (hFK : FarK N K A) (hpA : x.kids ≠ [] → ∀ a, p = some a → A a.block) : ∃ K', Nown w5 base (.slice (some ⟨g9, 0, none⟩) n9 cap9) (N ++ [x]) K' ∧ FarK (N ++ [x]) K' A := by
  obtain ⟨K', hK1, hK2⟩ := kf_snoc K N.length p c
  have hf2 : Fr2 (fun k => vn.ownBlock = some k) w w5 := Fr2.of hf (fun k e => e)
  have hkn : ∀ (i : Nat) (y : Nd), (N ++ [x])[i]? = some y → (i < N.length ∧ N[i]? = some y ∧ K' i = K i) ∨ (i = N.length ∧ y = x ∧ K' i = (p, c)) := fun i y hy => by
    by_cases hi : i < N.length
    · rw [List.getElem?_append_left hi] at hy; exact .inl ⟨hi, hy, hK2 i (by omega)⟩
    · have h1 := (List.getElem?_eq_some_iff.1 hy).1
      rw [List.length_append, List.length_singleton] at h1
      obtain rfl : i = N.length := by omega
      rw [List.getElem?_append_right (Nat.le_refl _)] at hy
      simp at hy
      exact .inr ⟨rfl, hy.symm, hK1⟩
  have hx9 : ∀ k, (Value.slice (some ⟨g9, 0, none⟩) n9 cap9).ownBlock = some k → g9 = k := fun k e => by simpa [Value.ownBlock] using e
  refine ⟨K', ⟨by rw [ndsV_snoc hK1 hK2]; exact hown, fun i y hy => ?_, fun i y hy hn a ha => ?_⟩, fun i y hy hn a ha => ?_⟩
  · rcases hkn i y hy with ⟨-, hy, e⟩ | ⟨-, rfl, e⟩
    · rw [e]
      exact (h.kids i y hy).keptF hf2 fun h0 a ha => (h.khi i y hy (intsV_ne h0) a ha).2.2
    · rw [e]
      exact hk.keptF hf2 fun h0 a ha => (hkb (intsV_ne h0) a ha).2
  · rcases hkn i y hy with ⟨-, hy, e⟩ | ⟨-, rfl, e⟩
    · rw [e] at ha
      obtain ⟨h1, h2, h3⟩ := h.khi i y hy hn a ha
      refine ⟨h1, Nat.lt_of_lt_of_le h2 hf2.size, fun e9 => ?_⟩
      have := hx9 _ e9
      subst this
      rcases hl9 with h | h
      · exact h3 h
      · omega
    · rw [e] at ha
      obtain ⟨h1, h3⟩ := hkb hn a ha
      have h2 := hk.lt (ne_intsV hn) a ha
      refine ⟨h1, Nat.lt_of_lt_of_le h2 hf2.size, fun e9 => ?_⟩
      have := hx9 _ e9
      subst this
      rcases hl9 with h | h
      · exact h3 h
      · omega
  · rcases hkn i y hy with ⟨-, hy, e⟩ | ⟨-, rfl, e⟩
    · rw [e] at ha; exact hFK i y hy hn a ha
    · rw [e] at ha; exact hpA hn a ha

set_option maxRecDepth 100000 in
set_option maxHeartbeats 32000000 in
theorem builds_yes (s : ByteArray) (O Kn : List Int) (po pk : Option Addr) (co ck : Nat) (w : World) (hs : s.size ≤ 200) (hO : O.length ≤ 40) (hK : Kn.length ≤ 40) (hla : LaidE w) (hvo : VAt w po (intsV O)) (hvk : VAt w pk (intsV Kn)) :
    Calls Tryd.prog 4 #[.string s, .slice po O.length co, .slice pk Kn.length ck] w (ValPost (.bool true) w) := by
  have HVO := Lib.hid hvo; have HVK := Lib.hid hvk
  obtain ⟨mo, hmo⟩ : ∃ mo, O.length = mo := ⟨_, rfl⟩
  obtain ⟨mk, hmk⟩ : ∃ mk, Kn.length = mk := ⟨_, rfl⟩
  have HMO := Lib.hid hmo; have HMK := Lib.hid hmk
  rw [hmo] at hO ⊢
  rw [hmk] at hK ⊢
  clear hmo hmk hvo hvk
  have d1 : decide ((200 : Int) < (s.size : Int)) = false := decide_eq_false (by omega)
  have d1' : decide (200 < s.size) = false := decide_eq_false (by omega)
  have d2 : decide ((40 : Int) < (mo : Int)) = false := decide_eq_false (by omega)
  have d2' : decide (40 < mo) = false := decide_eq_false (by omega)
  have d3 : decide ((40 : Int) < (mk : Int)) = false := decide_eq_false (by omega)
  have d3' : decide (40 < mk) = false := decide_eq_false (by omega)
  have HLA := Lib.hid hla
  have HBIG : Hid (¬ 65536 < s.data.toList.length) := Lib.hid (by rw [list_len]; omega)
  have HLX := Lib.hid (fun W (h : LaidE W) => Lex_c s W (by omega) h)
  have HS := Lib.hid hs
  obtain ⟨B, hB⟩ : ∃ B, w.heap.size = B := ⟨_, rfl⟩
  have HBW := Lib.hid hB
  clear hla hs hB
  go_enter Tryd.func4, Tryd.ntmps4
  go_wp2_with fail
  refine (anchor6_c _ HLA.out).mono ?_
  rintro e w0 ⟨rfl, hg0⟩
  have HG0 := Lib.hid hg0
  clear hg0
  go_wp2_with fail
  refine (HLX.out w0 (HLA.out.kept HG0.out)).mono ?_
  rintro e w1 ⟨hg1, h1⟩
  rw [if_neg HBIG.out] at h1
  have HG1 := Lib.hid (gb_trans HG0.out hg1)
  clear hg1 d1 d1' d2 d2' d3 d3' HLX HLA HG0
  obtain ⟨n, hn⟩ : ∃ n, (allE s.data.toList).2.1 = n := ⟨_, rfl⟩
  by_cases hn0 : n = 0
  · subst hn0
    rw [hn, if_neg (by simp)] at h1
    obtain ⟨q, c, rfl, hq1, hl1, hm1⟩ := h1
    obtain ⟨L, hL⟩ : ∃ L, (allE s.data.toList).1 = L := ⟨_, rfl⟩
    have hw := whole_all hn
    have hll := len_all hn
    have hlp := len_pos hn
    rw [hL] at hq1 hw hll hlp ⊢
    rw [list_len] at hll
    have hsh : Short L := whole_short (n := 500) (by rw [hw, list_len]; have := HS.out; omega) (by omega)
    have hL5 : (wholeL L).length ≤ 1000000 := by rw [hw, list_len]; have := HS.out; omega
    have HW := Lib.hid hw; have HQ1 := Lib.hid hq1; have HSH := Lib.hid hsh; have HL5 := Lib.hid hL5
    obtain ⟨m, hm⟩ : ∃ m, L.length = m := ⟨_, rfl⟩
    have HM := Lib.hid hm
    rw [hm] at hll hlp
    have hm500 : m ≤ 501 := by have := HS.out; omega
    clear hn hL hw hq1 hl1 hm1 hsh hL5 hll
    rw [hm]
    clear hm
    go_wp2_with fail
    have hga := World.grownBy_alloc w1 (.cells #[.int .i64 0, .int .i64 0] 47) none
    generalize w1.alloc (.cells #[.int .i64 0, .int .i64 0] 47) = W1 at *
    have HQ2 := Lib.hid (HQ1.out.kept hga)
    have HG2 := Lib.hid (gb_trans HG1.out hga)
    clear hga HQ1 HG1
    have HNB := Lib.hid (NewBuilder_c L q c W1 (by rw [HM.out]; omega) HSH.out HQ2.out)
    rw [HM.out] at HNB
    refine HNB.out.mono ?_
    rintro e W2 ⟨b, rfl, hbb, hbl, hg2⟩
    have hBb : B ≤ b := by have := HG2.out.size; have := HBW.out; omega
    have HL2 := Lib.hid hbl
    have HG3 := Lib.hid (gb_trans HG2.out hg2)
    have HQ3 := Lib.hid (HQ2.out.kept hg2)
    have HQB : Hid (L ≠ [] → ∀ a, q = some a → a.block < b) := Lib.hid (fun h0 a ha => by
      obtain ⟨g, off, e, hl, -⟩ := HQ2.out.resolve_left h0
      rw [ha] at e; cases e
      simp at hl ⊢; omega)
    have hb2 : b < W2.heap.size := (lit_far hbl).1
    clear hbl hbb hg2 HG2 HQ2 HNB
    go_wp2_with fail
    go_loopw [10, 11, 50] (fun wv uv iv wr => ∃ (i u : Nat) (N : List Nd) (vn : Value) (K2 : Kf), i ≤ mo ∧ iv = .int .i64 i ∧ uv = .int .i64 u ∧ u ≤ m ∧ Hid (N.length ≤ i) ∧ Hid (PairN N) ∧ Hid (Nown wr (b + 1) wv N K2) ∧ Hid (FarV wr b L u N vn (fun k => wv.ownBlock ≠ some k)) ∧ Hid (Sep wv vn) ∧ Hid (KidFar N K2 vn) ∧ Hid (Below b W2 wr)) (fun _ _ v _ => mo - (intOf v).toNat)
    case atStart => exact ⟨0, 0, [], _, fun _ => (none, 0), Nat.zero_le _, rfl, rfl, Nat.zero_le _, Lib.hid (by simp), Lib.hid (fun x hx => by simp at hx), Lib.hid ⟨OwnG.nil _ _ _ _, fun i x hx => by simp at hx, fun i x hx => by simp at hx⟩, Lib.hid (by
      obtain ⟨pt, ct, K, h⟩ := HL2.out
      exact ⟨pt, ct, K, h, fun i x hx => by simp at hx⟩), Lib.hid (fun k h => by cases h), Lib.hid (fun i x hx => by simp at hx), Lib.hid (Below.refl _ _)⟩
    case round =>
      clear HL2
      obtain ⟨i, u, N, vn, K2, hi, rfl, rfl, hum, HNL, HPR, HWN, HFV, HSP, HKF, HB⟩ := hrel
      have hGB : w.grownBy wr none := below_gb (Below.trans2 (gb_below HG3.out) (HB.out.mono (by rw [HBW.out]; exact hBb)))
      have HGB := Lib.hid hGB
      obtain ⟨pw, cw, ew, -, -, -, -⟩ := HWN.out.own.is
      rw [nds_len] at ew
      obtain ⟨nn, hnn⟩ : ∃ nn, N.length = nn := ⟨_, rfl⟩
      have HNN := Lib.hid hnn
      rw [hnn] at ew
      have hnni : nn ≤ i := by rw [← hnn]; exact HNL.out
      subst ew
      clear hnn hGB
      by_cases hlt : i < mo
      · have d1 : decide ((i : Int) < (mo : Int)) = true := decide_eq_true (by omega)
        have d1' : decide (i < mo) = true := decide_eq_true hlt
        obtain ⟨o, ho⟩ : ∃ o, O[i]? = some o := ⟨O[i]'(by rw [HMO.out]; exact hlt), List.getElem?_eq_getElem _⟩
        obtain ⟨go, oo, rfl, hgo, co'⟩ := kid_at HVO.out ho
        have co' := HGB.out.cell co' (by simp)
        obtain ⟨j, hj⟩ : ∃ j, min u (m - 1) = j := ⟨_, rfl⟩
        obtain ⟨t, ht⟩ : ∃ t, L[j]? = some t := ⟨L[j]'(by rw [HM.out]; omega), List.getElem?_eq_getElem _⟩
        have HPK := Lib.hid (Peek_c b L u N vn t wr (by rw [HM.out]; omega) (by rw [HM.out]; exact hum) HSH.out (by rw [HM.out, hj]; exact ht) HFV.out.bld)
        obtain ⟨x, hx⟩ : ∃ x : ByteArray, (⟨t.lead.toArray⟩ : ByteArray) = x := ⟨_, rfl⟩
        obtain ⟨y, hy⟩ : ∃ y : ByteArray, (⟨t.text.toArray⟩ : ByteArray) = y := ⟨_, rfl⟩
        have hta : tokA t = .agg #[.int .i64 (t.kind : Int), .string x, .string y, .int .i64 (t.pos : Int)] := by unfold tokA strV; rw [hx, hy]
        rw [hta] at HPK
        have HTF := Lib.hid (TAt.below HQ3.out HB.out HQB.out)
        obtain ⟨g, off, rfl, hgl, hc⟩ := HTF.out.resolve_left (fun e => by rw [e] at ht; simp at ht)
        obtain ⟨c0, c1, c2, c3⟩ := hc j t ht
        unfold strV at c1 c2
        rw [hx] at c1
        rw [hy] at c2
        generalize (t.kind : Int) = tk at *
        generalize (t.pos : Int) = tp at *
        obtain ⟨m1, hm1⟩ : ∃ m1, m - 1 = m1 := ⟨_, rfl⟩
        have hw1 : IntKind.i64.wrap ((m : Int) - 1) = (m1 : Int) := by rw [IntWalk.i64_in _ (by omega)]; omega
        have hmin : min (u : Int) (m1 : Int) = (j : Int) := by omega
        have hjm : j < m := by omega
        clear ho hta hx hy hc ht hj hm1
        go_wp2_with fail
        refine HPK.out.mono ?_
        rintro e w3 ⟨rfl, hg3⟩
        have c0 := hg3.cell c0 (by simp)
        have c1 := hg3.cell c1 (by simp)
        have c2 := hg3.cell c2 (by simp)
        have c3 := hg3.cell c3 (by simp)
        have hgw : g < w3.heap.size := Nat.lt_of_lt_of_le hgl hg3.size
        have HG4 := Lib.hid hg3
        clear hg3 HPK
        go_wp2_with fail
        go_quiet (fail)
        have HG5 : Hid (wr.grownBy ((w3.alloc (.cells #[.int .i64 tk, .string x, .string y, .int .i64 tp] 53)).drewN nq) none) := Lib.hid (gb_trans HG4.out (gb_drewN (gb_alloc (gb_refl _ _) _) _))
        generalize ((w3.alloc (.cells #[.int .i64 tk, .string x, .string y, .int .i64 tp] 53)).drewN nq) = W5 at *
        have HG5w := Lib.hid (gb_trans HGB.out HG5.out)
        have HWN5 : Hid (Nown W5 (b + 1) (.slice pw nn cw) N K2) := Lib.hid (HWN.out.kept HG5.out)
        have HFV5 := Lib.hid (HFV.out.kept HG5.out)
        have hbs : b + 1 ≤ wr.heap.size := by have := (lit_far HFV.out.bld).1; omega
        have HBB5 := Lib.hid (Below.trans2 HB.out (Below.gb HG5.out (by omega)))
        have hb5 : b ≤ W5.heap.size := by have := HG5.out.size; omega
        clear HWN HFV HB c0 c1 c2 c3 HG4
        by_cases ho : o < 0
        · have d5 : decide (o < 0) = true := decide_eq_true ho
          by_cases hu : u = m
          · subst hu
            have HLN := Lib.hid (Leaf_none b L N vn W5 (by rw [HM.out]; omega) (by rw [HM.out]; exact HFV5.out.bld))
            have e1 : decide (u < u) = false := decide_eq_false (by omega)
            go_wp2_with fail
            refine HLN.out.mono ?_
            rintro e w6 ⟨rfl, hg6⟩
            have HG6 := Lib.hid hg6
            clear hg6 HLN
            go_wp2_with fail
            go_roundw
            case rel => exact ⟨i + 1, u, N, vn, K2, by omega, by go_num, by rfl, Nat.le_refl _, Lib.hid (by have := HNL.out; omega), HPR, Lib.hid (HWN5.out.kept HG6.out), Lib.hid (HFV5.out.kept HG6.out), HSP, HKF, Lib.hid (Below.trans2 HBB5.out (Below.gb HG6.out hb5))⟩
            case measure => (simp [intOf] <;> omega)
          · have hu2 : u < m := by omega
            have e1 : ((u : Int) == (m : Int)) = false := beq_eq_false_iff_ne.2 (by omega)
            have e1' : (u == m) = false := beq_eq_false_iff_ne.2 hu
            have e2 : decide ((u : Int) < (m : Int)) = true := decide_eq_true (by omega)
            have e2' : decide (u < m) = true := decide_eq_true hu2
            have HLF := Lib.hid (Leaf_far _ b L u N vn W5 (by rw [HM.out]; omega) (by rw [HM.out]; exact hu2) (by rw [HNN.out]; omega) HFV5.out)
            have hw2 : IntKind.i64.wrap ((u : Int) + 1) = (u : Int) + 1 := IntWalk.i64_in _ (by omega)
            go_wp2_with fail
            refine HLF.out.mono ?_
            rintro e w6 ⟨he, vn6, hb6, hf6, hs6⟩
            rw [HNN.out] at he
            subst he
            have HFV6 : Hid (FarV w6 b L (u + 1) (N ++ [⟨19, (u : Int), []⟩]) vn6 (fun k => (Value.slice pw nn cw).ownBlock ≠ some k)) := Lib.hid hb6
            have HWN6 : Hid (Nown w6 (b + 1) (.slice pw nn cw) N K2) := Lib.hid (HWN5.out.keptF hf6 (fun k e h => by
              rcases h with h | h
              · have := (OwnG.at HWN5.out.own k e).1; omega
              · exact HSP.out k e h) (fun i x hx hn a ha h => by
              rcases h with h | h
              · have := (HWN5.out.khi i x hx hn a ha).1; omega
              · exact HKF.out i x hx hn a ha h))
            have HSP6 : Hid (Sep (.slice pw nn cw) vn6) := Lib.hid (fun k h1 h2 => by
              rcases hs6 k h2 with h | h
              · exact HSP.out k h1 h
              · have := (OwnG.at HWN5.out.own k h1).2; omega)
            have HKF6 : Hid (KidFar N K2 vn6) := Lib.hid (fun i x hx hn a ha h2 => by
              rcases hs6 _ h2 with h | h
              · exact HKF.out i x hx hn a ha h
              · have := (HWN5.out.khi i x hx hn a ha).2.1; omega)
            have HBB6 := Lib.hid (turn_below HFV5.out.bld hf6 (Nat.le_refl _) HBB5.out)
            have hb6s : b + 1 ≤ w6.heap.size := by have := (lit_far HFV6.out.bld).1; omega
            have HND6 : Hid ((ndsV K2 N).length = nn) := Lib.hid (by rw [nds_len, HNN.out])
            have HLE6 : Hid ((ndsV K2 N).length ≤ 1000000) := Lib.hid (by rw [HND6.out]; omega)
            clear hb6 hf6 hs6 HWN5 HFV5 HSP HKF HBB5 HLF
            go_wp2_with (at_builtin; go_loud (refine wpList_appGl (s := 3) (t := 23) (T := 56) (by decide) Tryd.underlying23 infoTN rfl (by omega) rfl _ _ rfl (b + 1) (ndsV K2 N) [.int .i64 19, .int .i64 (u : Int), .slice none 0 0] rfl (fun u hu => by simp at hu; rcases hu with rfl | rfl | rfl <;> rfl) (.slice pw nn cw) rfl (OwnG.kept HWN6.out.own (World.grownBy_alloc w6 _ none)) w6.heap.size _ rfl (heap_alloc_new w6 _) rfl HLE6.out (by simp; omega) (w6.heap.size + 1) (by simp) ?_))
            intro g9 cap9 w9 hO9 hg9 hl9
            obtain ⟨K9, hN9, hK9⟩ := Nown.addF (A := fun k => vn6.ownBlock ≠ some k) (HWN6.out.kept (World.grownBy_alloc w6 (.cells #[.int .i64 19, .int .i64 (u : Int), .slice none 0 0] 56) none)) hg9 (x := ⟨19, (u : Int), []⟩) (p := none) (c := 0) hO9 (.inl rfl) (fun h => absurd rfl h) (hl9.imp id (fun h => by simp; omega)) HKF6.out (fun h => absurd rfl h)
            rw [HND6.out] at hO9 hN9 ⊢
            have HN9 := Lib.hid hN9; have HKF9 : Hid (KidFar (N ++ [⟨19, (u : Int), []⟩]) K9 vn6) := Lib.hid hK9
            have HFV9 : Hid (FarV w9 b L (u + 1) (N ++ [⟨19, (u : Int), []⟩]) vn6 (fun k => (Value.slice (some ⟨g9, 0, none⟩) (nn + 1) cap9).ownBlock ≠ some k)) := Lib.hid ((HFV6.out.kept (World.grownBy_alloc w6 (.cells #[.int .i64 19, .int .i64 (u : Int), .slice none 0 0] 56) none)).keptF (Fr2.of (S := fun k => (Value.slice pw nn cw).ownBlock = some k) hg9 (fun k e => e)) (fun k hk e => by have := (OwnG.at HWN6.out.own k e).1; omega) (fun k e h => HSP6.out k h e) (fun k hk e => hk e) (fun k hk hak e => by
              have h3 : g9 = k := by simpa [Value.ownBlock] using e
              subst h3
              rcases hl9 with h | h
              · exact hak h
              · simp at hk; omega))
            have HSP9 : Hid (Sep (.slice (some ⟨g9, 0, none⟩) (nn + 1) cap9) vn6) := Lib.hid (fun k h1 h2 => by
              have h3 : g9 = k := by simpa [Value.ownBlock] using h1
              subst h3
              rcases hl9 with h | h
              · exact HSP6.out _ h h2
              · have := ((lit_far HFV6.out.bld).2 _ h2).2; omega)
            have HBB9 := Lib.hid ((Below.trans2 HBB6.out (Below.gb (World.grownBy_alloc w6 (.cells #[.int .i64 19, .int .i64 (u : Int), .slice none 0 0] 56) none) (by omega))).grown hg9 (by simp; omega) (fun k e => by have := (OwnG.at HWN6.out.own k e).1; omega))
            clear hO9 hg9 hl9 hN9 hK9 HWN6 HFV6 HSP6 HKF6 HBB6
            go_wp2_with fail
            go_roundw
            case rel => exact ⟨i + 1, u + 1, N ++ [⟨19, (u : Int), []⟩], vn6, K9, by omega, by go_num, by go_num, by omega, Lib.hid (by rw [List.length_append, HNN.out]; simp; omega), Lib.hid (fun x hx => by
              rcases List.mem_append.1 hx with h | h
              · exact HPR.out x h
              · simp at h; subst h; exact .inl rfl), HN9, HFV9, HSP9, HKF9, HBB9⟩
            case measure => (simp [intOf] <;> omega)
        · have d5 : decide (o < 0) = false := decide_eq_false ho
          by_cases hik : mk ≤ i
          · have d6 : decide ((mk : Int) ≤ (i : Int)) = true := decide_eq_true (by omega)
            have d6' : decide (mk ≤ i) = true := decide_eq_true hik
            by_cases hu : u = m
            · subst hu
              have HLN := Lib.hid (Leaf_none b L N vn W5 (by rw [HM.out]; omega) (by rw [HM.out]; exact HFV5.out.bld))
              have e1 : decide (u < u) = false := decide_eq_false (by omega)
              go_wp2_with fail
              refine HLN.out.mono ?_
              rintro e w6 ⟨rfl, hg6⟩
              have HG6 := Lib.hid hg6
              clear hg6 HLN
              go_wp2_with fail
              go_roundw
              case rel => exact ⟨i + 1, u, N, vn, K2, by omega, by go_num, by rfl, Nat.le_refl _, Lib.hid (by have := HNL.out; omega), HPR, Lib.hid (HWN5.out.kept HG6.out), Lib.hid (HFV5.out.kept HG6.out), HSP, HKF, Lib.hid (Below.trans2 HBB5.out (Below.gb HG6.out hb5))⟩
              case measure => (simp [intOf] <;> omega)
            · have hu2 : u < m := by omega
              have e1 : ((u : Int) == (m : Int)) = false := beq_eq_false_iff_ne.2 (by omega)
              have e1' : (u == m) = false := beq_eq_false_iff_ne.2 hu
              have e2 : decide ((u : Int) < (m : Int)) = true := decide_eq_true (by omega)
              have e2' : decide (u < m) = true := decide_eq_true hu2
              have HLF := Lib.hid (Leaf_far _ b L u N vn W5 (by rw [HM.out]; omega) (by rw [HM.out]; exact hu2) (by rw [HNN.out]; omega) HFV5.out)
              have hw2 : IntKind.i64.wrap ((u : Int) + 1) = (u : Int) + 1 := IntWalk.i64_in _ (by omega)
              go_wp2_with fail
              refine HLF.out.mono ?_
              rintro e w6 ⟨he, vn6, hb6, hf6, hs6⟩
              rw [HNN.out] at he
              subst he
              have HFV6 : Hid (FarV w6 b L (u + 1) (N ++ [⟨19, (u : Int), []⟩]) vn6 (fun k => (Value.slice pw nn cw).ownBlock ≠ some k)) := Lib.hid hb6
              have HWN6 : Hid (Nown w6 (b + 1) (.slice pw nn cw) N K2) := Lib.hid (HWN5.out.keptF hf6 (fun k e h => by
                rcases h with h | h
                · have := (OwnG.at HWN5.out.own k e).1; omega
                · exact HSP.out k e h) (fun i x hx hn a ha h => by
                rcases h with h | h
                · have := (HWN5.out.khi i x hx hn a ha).1; omega
                · exact HKF.out i x hx hn a ha h))
              have HSP6 : Hid (Sep (.slice pw nn cw) vn6) := Lib.hid (fun k h1 h2 => by
                rcases hs6 k h2 with h | h
                · exact HSP.out k h1 h
                · have := (OwnG.at HWN5.out.own k h1).2; omega)
              have HKF6 : Hid (KidFar N K2 vn6) := Lib.hid (fun i x hx hn a ha h2 => by
                rcases hs6 _ h2 with h | h
                · exact HKF.out i x hx hn a ha h
                · have := (HWN5.out.khi i x hx hn a ha).2.1; omega)
              have HBB6 := Lib.hid (turn_below HFV5.out.bld hf6 (Nat.le_refl _) HBB5.out)
              have hb6s : b + 1 ≤ w6.heap.size := by have := (lit_far HFV6.out.bld).1; omega
              have HND6 : Hid ((ndsV K2 N).length = nn) := Lib.hid (by rw [nds_len, HNN.out])
              have HLE6 : Hid ((ndsV K2 N).length ≤ 1000000) := Lib.hid (by rw [HND6.out]; omega)
              clear hb6 hf6 hs6 HWN5 HFV5 HSP HKF HBB5 HLF
              go_wp2_with (at_builtin; go_loud (refine wpList_appGl (s := 3) (t := 23) (T := 56) (by decide) Tryd.underlying23 infoTN rfl (by omega) rfl _ _ rfl (b + 1) (ndsV K2 N) [.int .i64 19, .int .i64 (u : Int), .slice none 0 0] rfl (fun u hu => by simp at hu; rcases hu with rfl | rfl | rfl <;> rfl) (.slice pw nn cw) rfl (OwnG.kept HWN6.out.own (World.grownBy_alloc w6 _ none)) w6.heap.size _ rfl (heap_alloc_new w6 _) rfl HLE6.out (by simp; omega) (w6.heap.size + 1) (by simp) ?_))
              intro g9 cap9 w9 hO9 hg9 hl9
              obtain ⟨K9, hN9, hK9⟩ := Nown.addF (A := fun k => vn6.ownBlock ≠ some k) (HWN6.out.kept (World.grownBy_alloc w6 (.cells #[.int .i64 19, .int .i64 (u : Int), .slice none 0 0] 56) none)) hg9 (x := ⟨19, (u : Int), []⟩) (p := none) (c := 0) hO9 (.inl rfl) (fun h => absurd rfl h) (hl9.imp id (fun h => by simp; omega)) HKF6.out (fun h => absurd rfl h)
              rw [HND6.out] at hO9 hN9 ⊢
              have HN9 := Lib.hid hN9; have HKF9 : Hid (KidFar (N ++ [⟨19, (u : Int), []⟩]) K9 vn6) := Lib.hid hK9
              have HFV9 : Hid (FarV w9 b L (u + 1) (N ++ [⟨19, (u : Int), []⟩]) vn6 (fun k => (Value.slice (some ⟨g9, 0, none⟩) (nn + 1) cap9).ownBlock ≠ some k)) := Lib.hid ((HFV6.out.kept (World.grownBy_alloc w6 (.cells #[.int .i64 19, .int .i64 (u : Int), .slice none 0 0] 56) none)).keptF (Fr2.of (S := fun k => (Value.slice pw nn cw).ownBlock = some k) hg9 (fun k e => e)) (fun k hk e => by have := (OwnG.at HWN6.out.own k e).1; omega) (fun k e h => HSP6.out k h e) (fun k hk e => hk e) (fun k hk hak e => by
                have h3 : g9 = k := by simpa [Value.ownBlock] using e
                subst h3
                rcases hl9 with h | h
                · exact hak h
                · simp at hk; omega))
              have HSP9 : Hid (Sep (.slice (some ⟨g9, 0, none⟩) (nn + 1) cap9) vn6) := Lib.hid (fun k h1 h2 => by
                have h3 : g9 = k := by simpa [Value.ownBlock] using h1
                subst h3
                rcases hl9 with h | h
                · exact HSP6.out _ h h2
                · have := ((lit_far HFV6.out.bld).2 _ h2).2; omega)
              have HBB9 := Lib.hid ((Below.trans2 HBB6.out (Below.gb (World.grownBy_alloc w6 (.cells #[.int .i64 19, .int .i64 (u : Int), .slice none 0 0] 56) none) (by omega))).grown hg9 (by simp; omega) (fun k e => by have := (OwnG.at HWN6.out.own k e).1; omega))
              clear hO9 hg9 hl9 hN9 hK9 HWN6 HFV6 HSP6 HKF6 HBB6
              go_wp2_with fail
              go_roundw
              case rel => exact ⟨i + 1, u + 1, N ++ [⟨19, (u : Int), []⟩], vn6, K9, by omega, by go_num, by go_num, by omega, Lib.hid (by rw [List.length_append, HNN.out]; simp; omega), Lib.hid (fun x hx => by
                rcases List.mem_append.1 hx with h | h
                · exact HPR.out x h
                · simp at h; subst h; exact .inl rfl), HN9, HFV9, HSP9, HKF9, HBB9⟩
              case measure => (simp [intOf] <;> omega)
          · have d6 : decide ((mk : Int) ≤ (i : Int)) = false := decide_eq_false (by omega)
            have d6' : decide (mk ≤ i) = false := decide_eq_false hik
            have hio : i < mk := by omega
            have hio' : decide (i < mk) = true := decide_eq_true hio
            obtain ⟨kd, hkd⟩ : ∃ kd, Kn[i]? = some kd := ⟨Kn[i]'(by rw [HMK.out]; exact hio), List.getElem?_eq_getElem _⟩
            obtain ⟨gk, ok, rfl, hgk, ck'⟩ := kid_at HVK.out hkd
            have HCK := Lib.hid ck'
            have ck5 := HG5w.out.cell ck' (by simp)
            have hgk5 : gk < W5.heap.size := Nat.lt_of_lt_of_le hgk HG5w.out.size
            have hw2 : IntKind.i64.wrap ((nn : Int) - 1) = (nn : Int) - 1 := IntWalk.i64_in _ (by omega)
            obtain ⟨X, hX⟩ : ∃ X, W5.heap.size = X := ⟨_, rfl⟩
            have hgl5 := World.grownBy_alloc W5 (.cells #[.int .i64 o, .int .i64 ((nn : Int) - 1)] 3) none
            have HVL := Lib.hid (v_lit W5 [o, (nn : Int) - 1] 3 X hX #[.int .i64 o, .int .i64 ((nn : Int) - 1)] rfl)
            have HG7 := Lib.hid hgl5
            have HXX := Lib.hid hX
            have hbX0 : b + 1 ≤ X := by have := (lit_far HFV5.out.bld).1; omega
            have hxs0 : (W5.alloc (.cells #[.int .i64 o, .int .i64 ((nn : Int) - 1)] 3)).heap.size = X + 1 := by simp [hX]
            have HXS := Lib.hid hxs0
            clear hkd ck' hgl5 hX hxs0
            by_cases hok : o < (nn : Int) ∧ 0 < nn
            · have e1 : decide ((nn : Int) ≤ o) = false := decide_eq_false (by omega)
              have e2 : ((nn : Int) == 0) = false := beq_eq_false_iff_ne.2 (by omega)
              have e2' : (nn == 0) = false := beq_eq_false_iff_ne.2 (by omega)
              have HWL : Hid (Nown (W5.alloc (.cells #[.int .i64 o, .int .i64 ((nn : Int) - 1)] 3)) (b + 1) (.slice pw nn cw) N K2) := Lib.hid (HWN5.out.kept HG7.out)
              have HFL := Lib.hid (HFV5.out.kept HG7.out)
              have HBL := Lib.hid (Below.trans2 HBB5.out (Below.gb HG7.out hb5))
              have HNF := Lib.hid (Node_far _ b L u N vn kd [o, (nn : Int) - 1] (some ⟨X, 0, none⟩) 2 _ (by rw [HNN.out]; omega) (by simp) HFL.out (fun k hk e => by have := (OwnG.at HWL.out.own k e).2; omega) HVL.out (okB_true fun k hk => by
                rw [HNN.out]
                simp at hk
                rcases hk with rfl | rfl <;> omega))
              have hvX : vn.ownBlock ≠ some X := fun e => by have := ((lit_far HFV5.out.bld).2 _ e).2; have h2 := HXX.out; omega
              have hwX : (Value.slice pw nn cw).ownBlock ≠ some X := fun e => by have := (OwnG.at HWN5.out.own _ e).2; have h2 := HXX.out; omega
              have hbX := hbX0
              have HVX := Lib.hid hvX; have HWX := Lib.hid hwX
              clear hvX hwX
              go_wp2_with fail
              rw [HXX.out]
              refine HNF.out.mono ?_
              rintro e w6 ⟨he, vn6, hb6, hf6, hs6⟩
              rw [HNN.out] at he
              subst he
              rw [HXS.out] at hs6
              have ck6 := (show w6.cell? ⟨gk, ok + i, none⟩ = some (.int .i64 kd) from by
                have h0 : Below b W2 (W5.alloc (.cells #[.int .i64 o, .int .i64 ((nn : Int) - 1)] 3)) := HBL.out
                have h1 := turn_below HFL.out.bld hf6 (Nat.le_refl _) h0
                exact (show w.grownBy w6 none from below_gb (Below.trans2 (gb_below HG3.out) (h1.mono (by rw [HBW.out]; exact hBb)))).cell HCK.out (by simp))
              have HVL6 : Hid (VAt w6 (some ⟨X, 0, none⟩) (intsV [o, (nn : Int) - 1])) := Lib.hid (HVL.out.keptF hf6 (fun _ a ha e => by
                cases ha
                rcases e with e | e
                · have : X = b := e
                  omega
                · exact HVX.out e))
              have HFV6 : Hid (FarV w6 b L (u) (N ++ [⟨kd, -1, [o, (nn : Int) - 1]⟩]) vn6 (fun k => (Value.slice pw nn cw).ownBlock ≠ some k)) := Lib.hid hb6
              have HWN6 : Hid (Nown w6 (b + 1) (.slice pw nn cw) N K2) := Lib.hid (HWL.out.keptF hf6 (fun k e h => by
                rcases h with h | h
                · have := (OwnG.at HWL.out.own k e).1; omega
                · exact HSP.out k e h) (fun i x hx hn a ha h => by
                rcases h with h | h
                · have := (HWL.out.khi i x hx hn a ha).1; omega
                · exact HKF.out i x hx hn a ha h))
              have HSP6 : Hid (Sep (.slice pw nn cw) vn6) := Lib.hid (fun k h1 h2 => by
                rcases hs6 k h2 with h | h
                · exact HSP.out k h1 h
                · have := (OwnG.at HWL.out.own k h1).2; rw [HXS.out] at this; omega)
              have HKF6 : Hid (KidFar N K2 vn6) := Lib.hid (fun i x hx hn a ha h2 => by
                rcases hs6 _ h2 with h | h
                · exact HKF.out i x hx hn a ha h
                · have := (HWL.out.khi i x hx hn a ha).2.1; rw [HXS.out] at this; omega)
              have HBB6 := Lib.hid (turn_below HFL.out.bld hf6 (Nat.le_refl _) HBL.out)
              have hb6s : b + 1 ≤ w6.heap.size := by have := (lit_far HFV6.out.bld).1; omega
              have HND6 : Hid ((ndsV K2 N).length = nn) := Lib.hid (by rw [nds_len, HNN.out])
              have HLE6 : Hid ((ndsV K2 N).length ≤ 1000000) := Lib.hid (by rw [HND6.out]; omega)
              have HVX6 : Hid (vn6.ownBlock ≠ some X) := Lib.hid (fun e => by
                rcases hs6 _ e with h | h
                · exact HVX.out h
                · omega)
              have hgk6 : gk < w6.heap.size := by have := hf6.size; rw [HXS.out] at this; have h2 := HXX.out; omega
              clear hb6 hf6 hs6 HWN5 HFV5 HSP HKF HBB5 HWL HFL HBL HNF HVL
              go_wp2_with (at_builtin; go_loud (refine wpList_appGl (s := 3) (t := 23) (T := 56) (by decide) Tryd.underlying23 infoTN rfl (by omega) rfl _ _ rfl (b + 1) (ndsV K2 N) [.int .i64 kd, .int .i64 (-1), .slice (some ⟨X, 0, none⟩) 2 2] rfl (fun u hu => by simp at hu; rcases hu with rfl | rfl | rfl <;> rfl) (.slice pw nn cw) rfl (OwnG.kept HWN6.out.own (World.grownBy_alloc w6 _ none)) w6.heap.size _ rfl (heap_alloc_new w6 _) rfl HLE6.out (by simp; omega) (w6.heap.size + 1) (by simp) ?_))
              intro g9 cap9 w9 hO9 hg9 hl9
              obtain ⟨K9, hN9, hK9⟩ := Nown.addF (A := fun k => vn6.ownBlock ≠ some k) (HWN6.out.kept (World.grownBy_alloc w6 (.cells #[.int .i64 kd, .int .i64 (-1), .slice (some ⟨X, 0, none⟩) 2 2] 56) none)) hg9 (x := ⟨kd, -1, [o, (nn : Int) - 1]⟩) (p := some ⟨X, 0, none⟩) (c := 2) hO9 (HVL6.out.kept (World.grownBy_alloc w6 _ none)) (fun _ a ha => by cases ha; exact ⟨hbX, HWX.out⟩) (hl9.imp id (fun h => by simp; omega)) HKF6.out (fun _ a ha => by cases ha; exact HVX6.out)
              rw [HND6.out] at hO9 hN9 ⊢
              have HN9 := Lib.hid hN9; have HKF9 : Hid (KidFar (N ++ [⟨kd, -1, [o, (nn : Int) - 1]⟩]) K9 vn6) := Lib.hid hK9
              have HFV9 : Hid (FarV w9 b L (u) (N ++ [⟨kd, -1, [o, (nn : Int) - 1]⟩]) vn6 (fun k => (Value.slice (some ⟨g9, 0, none⟩) (nn + 1) cap9).ownBlock ≠ some k)) := Lib.hid ((HFV6.out.kept (World.grownBy_alloc w6 (.cells #[.int .i64 kd, .int .i64 (-1), .slice (some ⟨X, 0, none⟩) 2 2] 56) none)).keptF (Fr2.of (S := fun k => (Value.slice pw nn cw).ownBlock = some k) hg9 (fun k e => e)) (fun k hk e => by have := (OwnG.at HWN6.out.own k e).1; omega) (fun k e h => HSP6.out k h e) (fun k hk e => hk e) (fun k hk hak e => by
                have h3 : g9 = k := by simpa [Value.ownBlock] using e
                subst h3
                rcases hl9 with h | h
                · exact hak h
                · simp at hk; omega))
              have HSP9 : Hid (Sep (.slice (some ⟨g9, 0, none⟩) (nn + 1) cap9) vn6) := Lib.hid (fun k h1 h2 => by
                have h3 : g9 = k := by simpa [Value.ownBlock] using h1
                subst h3
                rcases hl9 with h | h
                · exact HSP6.out _ h h2
                · have := ((lit_far HFV6.out.bld).2 _ h2).2; omega)
              have HBB9 := Lib.hid ((Below.trans2 HBB6.out (Below.gb (World.grownBy_alloc w6 (.cells #[.int .i64 kd, .int .i64 (-1), .slice (some ⟨X, 0, none⟩) 2 2] 56) none) (by omega))).grown hg9 (by simp; omega) (fun k e => by have := (OwnG.at HWN6.out.own k e).1; omega))
              clear hO9 hg9 hl9 hN9 hK9 HWN6 HFV6 HSP6 HKF6 HBB6
              go_wp2_with fail
              go_roundw
              case rel => exact ⟨i + 1, u, N ++ [⟨kd, -1, [o, (nn : Int) - 1]⟩], vn6, K9, by omega, by go_num, by go_num, by omega, Lib.hid (by rw [List.length_append, HNN.out]; simp; omega), Lib.hid (fun x hx => by
                rcases List.mem_append.1 hx with h | h
                · exact HPR.out x h
                · simp at h; subst h; exact .inr ⟨_, _, rfl⟩), HN9, HFV9, HSP9, HKF9, HBB9⟩
              case measure => (simp [intOf] <;> omega)
            · have HNO := Lib.hid (Node_none b L u N vn kd [o, (nn : Int) - 1] (some ⟨X, 0, none⟩) 2 _ (by rw [HNN.out]; omega) (by simp) (HFV5.out.bld.kept HG7.out) HVL.out (by
                rw [HNN.out]
                by_cases h : o < (nn : Int)
                · exact okB_false (j := 1) (x := (nn : Int) - 1) rfl (by omega)
                · exact okB_false (j := 0) (x := o) rfl (by omega)))
              by_cases hno : (nn : Int) ≤ o
              · have e1 : decide ((nn : Int) ≤ o) = true := decide_eq_true hno
                go_wp2_with fail
                rw [HXX.out]
                refine HNO.out.mono ?_
                rintro e w6 ⟨rfl, hg6⟩
                have HG6 := Lib.hid (gb_trans HG7.out hg6)
                clear hg6 HNO
                go_wp2_with fail
                go_roundw
                case rel => exact ⟨i + 1, u, N, vn, K2, by omega, by go_num, by rfl, hum, Lib.hid (by have := HNL.out; omega), HPR, Lib.hid (HWN5.out.kept HG6.out), Lib.hid (HFV5.out.kept HG6.out), HSP, HKF, Lib.hid (Below.trans2 HBB5.out (Below.gb HG6.out hb5))⟩
                case measure => (simp [intOf] <;> omega)
              · exact absurd (by omega) hno
      · obtain rfl : i = mo := by omega
        have HKL : Hid (∀ x ∈ N, x.kids.length ≤ 100000) := Lib.hid (fun x hx => by
          rcases HPR.out x hx with h | ⟨a, c, h⟩ <;> (rw [h]; simp))
        have HDN := Lib.hid (Done_c b L u N vn wr (by rw [HM.out]; omega) HSH.out (by rw [HNN.out]; omega) HKL.out HFV.out.bld)
        obtain ⟨pw2, cw2, ew2, hgw, -, -, -⟩ := HWN.out.own.is
        injection ew2 with ew2 ew3 ew4
        subst ew2
        have HNW : Hid (NodesAt wr pw N K2) := Lib.hid ⟨hgw, HWN.out.kids⟩
        clear hgw ew3 ew4
        go_wp2_with fail
        refine HDN.out.mono ?_
        rintro e w5 ⟨hg5, pt, ct, pn, cn, K, rfl, ht5, -, hn5⟩
        have HSW := Lib.hid (fun W h => Show_c L pt pn ct nn cn W (by rw [HM.out]; omega) HL5.out h)
        rw [HM.out] at HSW
        rw [HM.out, HNN.out]
        have hA := heap_alloc_new w5 (.cells #[.slice pt m ct, .slice pn nn cn] 25)
        have hgA := World.grownBy_alloc w5 (.cells #[.slice pt m ct, .slice pn nn cn] 25) none
        have HT5 := Lib.hid (ht5.kept hgA); have HN5 := Lib.hid (hn5.kept hgA)
        have HNW5 := Lib.hid (HNW.out.kept (gb_trans hg5 hgA))
        have HGA := Lib.hid (gb_trans HGB.out (gb_trans hg5 hgA))
        clear hg5 ht5 hn5 HDN HNW
        go_wp2_with fail
        generalize (w5.alloc (.cells #[.slice pt m ct, .slice pn nn cn] 25)) = W8 at *
        obtain ⟨X, hX⟩ : ∃ X, w5.heap.size = X := ⟨_, rfl⟩
        rw [hX] at hA ⊢
        have HA := Lib.hid hA
        clear hA hgA hX
        refine (HSW.out W8 HT5.out).mono ?_
        rintro e y5 ⟨⟨s2, rfl, hs2⟩, hg5⟩
        have HG8 := Lib.hid hg5
        have hss : s2 = s := by
          have h1 : s2.data.toList = s.data.toList := by rw [hs2, HW.out]
          rw [ba_data s2 h1]
        subst hss
        obtain ⟨f0, f1⟩ := cells_tree (bx hg5 HA.out)
        clear hg5 hs2
        go_wp2_with fail
        go_loopw [158] (fun v wr => ∃ k : Nat, k ≤ nn ∧ v = .int .i64 k ∧ Hid (W8.grownBy wr none)) (fun v _ => nn - (intOf v).toNat)
        case atStart => exact ⟨0, Nat.zero_le _, rfl, HG8⟩
        case round =>
          obtain ⟨k, hk, rfl, HG⟩ := hrel
          by_cases hlt2 : k < nn
          · have d5 : decide ((k : Int) < (nn : Int)) = true := decide_eq_true (by omega)
            have d5' : decide (k < nn) = true := decide_eq_true hlt2
            obtain ⟨x, hx⟩ : ∃ x, N[k]? = some x := ⟨N[k]'(by rw [HNN.out]; exact hlt2), List.getElem?_eq_getElem _⟩
            obtain ⟨ga, oa, rfl, hga, a0, a1, a2⟩ := node_at HNW5.out hx
            obtain ⟨gb, ob, rfl, hgb, b0, b1, b2⟩ := node_at HN5.out hx
            have a0 := HG.out.cell a0 (by simp)
            have a1 := HG.out.cell a1 (by simp)
            have a2 := HG.out.cell a2 (by simp)
            have b0 := HG.out.cell b0 (by simp)
            have b1 := HG.out.cell b1 (by simp)
            have b2 := HG.out.cell b2 (by simp)
            obtain ⟨t0, t1⟩ := cells_tree (bx HG.out HA.out)
            have HKA := Lib.hid (HNW5.out.2 k x hx)
            have HKB := Lib.hid (HN5.out.2 k x hx)
            have hgaw : ga < wr.heap.size := Nat.lt_of_lt_of_le hga HG.out.size
            have hgbw : gb < wr.heap.size := Nat.lt_of_lt_of_le hgb HG.out.size
            have hXw : X < wr.heap.size := hlt' (bx HG.out HA.out)
            have hpr := HPR.out x (List.mem_of_getElem? hx)
            obtain ⟨xk, hxk⟩ : ∃ xk, x.kind = xk := ⟨_, rfl⟩
            obtain ⟨xt, hxt⟩ : ∃ xt, x.tok = xt := ⟨_, rfl⟩
            rw [hxk] at a0 b0
            rw [hxt] at a1 b1
            obtain ⟨XL, hXL⟩ : ∃ XL, x.kids = XL := ⟨_, rfl⟩
            rw [hXL] at a2 b2 HKA HKB hpr
            clear hx hxk hxt hXL
            generalize K k = kk at *
            obtain ⟨kq, kc⟩ := kk
            generalize K2 k = kk2 at *
            obtain ⟨kq2, kc2⟩ := kk2
            simp only at a2 b2 HKA HKB
            have e1 : (xk != xk) = false := by simp
            have e2 : (xt != xt) = false := by simp
            rcases hpr with h | ⟨ka, kc', h⟩
            · subst h
              simp only [List.length_nil] at a2 b2
              go_wp2_with fail
              go_quiet (fail)
              go_wp2_with fail
              go_roundw
              case rel => exact ⟨k + 1, by omega, by go_num, Lib.hid (gb_trans HG.out (by repeat (first | with_reducible exact gb_refl _ _ | with_reducible refine gb_drewN ?_ _ | with_reducible refine gb_alloc ?_ _)))⟩
              case measure => (simp [intOf] <;> omega)
            · subst h
              obtain ⟨g1, o1, rfl, hg1, k0⟩ := kid_at HKA.out (j := 0) (x := ka) rfl
              obtain ⟨g1', o1', e9, -, k1⟩ := kid_at HKA.out (j := 1) (x := kc') rfl
              cases e9
              obtain ⟨g2, o2, rfl, hg2, l0⟩ := kid_at HKB.out (j := 0) (x := ka) rfl
              obtain ⟨g2', o2', e9, -, l1⟩ := kid_at HKB.out (j := 1) (x := kc') rfl
              cases e9
              have k0 := HG.out.cell k0 (by simp)
              have k1 := HG.out.cell k1 (by simp)
              have l0 := HG.out.cell l0 (by simp)
              have l1 := HG.out.cell l1 (by simp)
              rw [Nat.add_zero] at k0 l0
              have hg1w : g1 < wr.heap.size := Nat.lt_of_lt_of_le hg1 HG.out.size
              have hg2w : g2 < wr.heap.size := Nat.lt_of_lt_of_le hg2 HG.out.size
              simp only [List.length_cons, List.length_nil, Nat.reduceAdd] at a2 b2
              have e3 : (ka != ka) = false := by simp
              have e4 : (kc' != kc') = false := by simp
              go_wp2_with fail
              go_quiet (fail)
              go_wp2_with fail
              go_roundw
              case rel => exact ⟨k + 1, by omega, by go_num, Lib.hid (gb_trans HG.out (by repeat (first | with_reducible exact gb_refl _ _ | with_reducible refine gb_drewN ?_ _ | with_reducible refine gb_alloc ?_ _)))⟩
              case measure => (simp [intOf] <;> omega)
          · obtain rfl : k = nn := by omega
            go_wp2_with fail
            go_ret
            exact ⟨rfl, gb_trans HGA.out HG.out⟩
  · have d4 : ((n : Int) == 0) = false := beq_eq_false_iff_ne.2 (by omega)
    rw [hn, if_pos hn0] at h1
    subst h1
    clear hn
    go_wp2_with fail
    go_ret
    exact ⟨rfl, gb_alloc HG1.out _⟩

set_option maxRecDepth 100000 in
set_option maxHeartbeats 8000000 in
theorem builds_c (s : ByteArray) (O Kn : List Int) (po pk : Option Addr) (co ck : Nat) (w : World) (hOm : O.length ≤ maxLen) (hKm : Kn.length ≤ maxLen) (hla : LaidE w) (hvo : VAt w po (intsV O)) (hvk : VAt w pk (intsV Kn)) :
    Calls Tryd.prog 4 #[.string s, .slice po O.length co, .slice pk Kn.length ck] w (ValPost (.bool true) w) := by
  unfold maxLen at hOm hKm
  by_cases hs : s.size ≤ 200
  · by_cases hO : O.length ≤ 40
    · by_cases hK : Kn.length ≤ 40
      · exact builds_yes s O Kn po pk co ck w hs hO hK hla hvo hvk
      · obtain ⟨mo, hmo⟩ : ∃ mo, O.length = mo := ⟨_, rfl⟩
        obtain ⟨mk, hmk⟩ : ∃ mk, Kn.length = mk := ⟨_, rfl⟩
        rw [hmo] at hO hOm ⊢
        rw [hmk] at hK hKm ⊢
        clear hmo hmk hvo hvk
        have d1 : decide ((200 : Int) < (s.size : Int)) = false := decide_eq_false (by omega)
        have d1' : decide (200 < s.size) = false := decide_eq_false (by omega)
        have d2 : decide ((40 : Int) < (mo : Int)) = false := decide_eq_false (by omega)
        have d2' : decide (40 < mo) = false := decide_eq_false (by omega)
        have d3 : decide ((40 : Int) < (mk : Int)) = true := decide_eq_true (by omega)
        have d3' : decide (40 < mk) = true := decide_eq_true (by omega)
        go_enter Tryd.func4, Tryd.ntmps4
        go_wp2_with fail
        refine (anchor6_c _ hla).mono ?_
        rintro e w0 ⟨rfl, hg0⟩
        go_wp2_with fail
        go_ret
        exact ⟨rfl, hg0⟩
    · obtain ⟨mo, hmo⟩ : ∃ mo, O.length = mo := ⟨_, rfl⟩
      obtain ⟨mk, hmk⟩ : ∃ mk, Kn.length = mk := ⟨_, rfl⟩
      rw [hmo] at hO hOm ⊢
      rw [hmk] at hKm ⊢
      clear hmo hmk hvo hvk
      have d1 : decide ((200 : Int) < (s.size : Int)) = false := decide_eq_false (by omega)
      have d1' : decide (200 < s.size) = false := decide_eq_false (by omega)
      have d2 : decide ((40 : Int) < (mo : Int)) = true := decide_eq_true (by omega)
      have d2' : decide (40 < mo) = true := decide_eq_true (by omega)
      go_enter Tryd.func4, Tryd.ntmps4
      go_wp2_with fail
      refine (anchor6_c _ hla).mono ?_
      rintro e w0 ⟨rfl, hg0⟩
      go_wp2_with fail
      go_ret
      exact ⟨rfl, hg0⟩
  · obtain ⟨mo, hmo⟩ : ∃ mo, O.length = mo := ⟨_, rfl⟩
    obtain ⟨mk, hmk⟩ : ∃ mk, Kn.length = mk := ⟨_, rfl⟩
    rw [hmo] at hOm ⊢
    rw [hmk] at hKm ⊢
    clear hmo hmk hvo hvk
    have d1 : decide ((200 : Int) < (s.size : Int)) = true := decide_eq_true (by omega)
    have d1' : decide (200 < s.size) = true := decide_eq_true (by omega)
    go_enter Tryd.func4, Tryd.ntmps4
    go_wp2_with fail
    refine (anchor6_c _ hla).mono ?_
    rintro e w0 ⟨rfl, hg0⟩
    go_wp2_with fail
    go_ret
    exact ⟨rfl, hg0⟩
end Go.Proofs.YtdfegmdmappefaaDoor
