/- Lemmas. -/
import Derived.Test.YtccokidhngdjnaaGreatDoorP22
set_option linter.unusedVariables false
set_option linter.unusedSimpArgs false
namespace Go.Proofs.YtccokidhngdjnaaGreatDoor
open Go.RowKit

/-- What the document's Lex answers. -/
def RLexPost (l : List UInt8) (w : World) (e : Ending) (w' : World) : Prop :=
  w.grownBy w' none ∧ if 65536 < l.length then e = .returned (.tuple #[.slice none 0 0, .int .i64 11, .int .i64 0])
    else if (allE l).2.1 ≠ 0 then e = .returned (.tuple #[.slice none 0 0, .int .i64 ((allE l).2.1 : Nat), .int .i64 ((allE l).2.2 : Nat)])
    else ∃ q c, e = .returned (.tuple #[.slice q (allE l).1.length c, .int .i64 0, .int .i64 0]) ∧ TAt w' q (allE l).1 ∧ (allE l).1.length ≤ c ∧ c ≤ maxLen

theorem rbig_post {s : ByteArray} {w w' : World} {e : Ending} (hs : 65536 < s.size) (hg : w.grownBy w' none) (he : e = .returned (.tuple #[.slice none 0 0, .int .i64 11, .int .i64 0])) : RLexPost s.data.toList w e w' := by
  refine ⟨hg, ?_⟩
  rw [list_len, if_pos hs]; exact he
theorem rfault_post {s : ByteArray} {w w' : World} {e : Ending} {n p : Nat} (hs : ¬ 65536 < s.size) (hf : (allE s.data.toList).2 = (n, p)) (hn : n ≠ 0) (hg : w.grownBy w' none) (he : e = .returned (.tuple #[.slice none 0 0, .int .i64 (n : Int), .int .i64 (p : Int)])) : RLexPost s.data.toList w e w' := by
  refine ⟨hg, ?_⟩
  rw [list_len, if_neg hs, hf, if_pos hn]; exact he
theorem rdone_post {s : ByteArray} {w w' : World} {e : Ending} {O : List Tok} {q : Option Addr} {c : Nat} (hs : ¬ 65536 < s.size) (hf : allE s.data.toList = (O, 0, 0)) (hg : w.grownBy w' none) (he : e = .returned (.tuple #[.slice q O.length c, .int .i64 0, .int .i64 0])) (ht : TAt w' q O) (h1 : O.length ≤ c) (h2 : c ≤ maxLen) : RLexPost s.data.toList w e w' := by
  refine ⟨hg, ?_⟩
  rw [list_len, if_neg hs, hf, if_neg (by simp)]; exact ⟨q, c, he, ht, h1, h2⟩

set_option maxRecDepth 100000 in
set_option maxHeartbeats 8000000 in
theorem RLex_c (s : ByteArray) (w : World) (hs : s.size ≤ 1000000) : Calls Tryz.prog 53 #[.string s] w (RLexPost s.data.toList w) := by
  by_cases hbig : 65536 < s.size
  · have d1 : decide ((65536 : Int) < (s.size : Int)) = true := decide_eq_true (by omega)
    have d1' : decide (65536 < s.size) = true := decide_eq_true hbig
    go_enter Tryz.func53, Tryz.ntmps53
    go_wp2_with fail
    go_ret3
    exact rbig_post hbig (gb_refl _ _) rfl
  · have d1 : decide ((65536 : Int) < (s.size : Int)) = false := decide_eq_false (by omega)
    have d1' : decide (65536 < s.size) = false := decide_eq_false hbig
    have HBIG := Lib.hid hbig
    go_enter Tryz.func53, Tryz.ntmps53
    go_wp2_with fail
    clear d1 d1'
    go_loopw [5, 6] (fun ov pv wr => ∃ (p : Nat) (O : List Tok), p ≤ s.size ∧ pv = .int .i64 p ∧ Hid (RestE s.data.toList O p) ∧ Hid (OwnT 117 wr w.heap.size ov O) ∧ Hid (w.grownBy wr none)) (fun _ pv _ => s.size - (intOf pv).toNat)
    case atStart => exact ⟨0, [], Nat.zero_le _, rfl, Lib.hid (RestE.start _), Lib.hid (OwnT.nil _ _ _), gb_refl _ _⟩
    case round =>
      obtain ⟨p, O, hp, rfl, HR, HO, HG⟩ := hrel
      obtain ⟨a, k, z, ha, hkz, hk5, hpz, hst, htk⟩ := tok_parts s hp
      have HLE := Lib.hid (rlead_c s p wr hs hp)
      rw [ha] at HLE
      have HRB : Hid (∀ h : wrongE k (s.extract (p + a) (p + a + z)).data.toList = 0, k ≠ 5 → 0 < a + z) := Lib.hid (fun h h5 => by
        have := (HR.out.more (by rw [htk]; exact h) (by rw [htk]; exact h5)).2
        rw [hst] at this; exact this)
      obtain ⟨b, hb⟩ : ∃ b, p + a = b := ⟨_, rfl⟩
      have hpb : p ≤ b := by omega
      have hst2 : p + stepE (s.data.toList.drop p) = b + z := by rw [hst]; omega
      rw [hb] at HLE hkz hpz htk HRB
      have HTK := Lib.hid htk; have HST := Lib.hid hst2; have HAB := Lib.hid hb
      have HLN : Hid (O.length ≤ 1000000) := Lib.hid (by have := HR.out.2.1; omega)
      clear ha htk hst hst2 hb
      by_cases hend : b = s.size
      · have hdr : s.data.toList.drop b = [] := drop_end (by omega)
        rw [hdr] at hkz
        have hk : k = 5 ∧ z = 0 := by simp [firstE] at hkz; omega
        obtain ⟨rfl, rfl⟩ := hk
        have HTV : Hid (tokV (tokE (s.data.toList.drop p) p) = [.int .i64 5, .string (s.extract p b), .string ⟨#[]⟩, .int .i64 (b : Int)]) := Lib.hid (by
          have : (s.extract b (b + 0)) = ⟨#[]⟩ := ba_data _ (by rw [ext_take, hdr]; rfl)
          rw [HTK.out, this]; rfl)
        have HAL : Hid (allE s.data.toList = (O ++ [tokE (s.data.toList.drop p) p], 0, 0)) := Lib.hid (HR.out.done (by rw [HTK.out]; rfl) (by rw [HTK.out]))
        have e1 : ((b : Int) == (s.size : Int)) = true := by rw [hend]; simp
        have e1' : (b == s.size) = true := by rw [hend]; simp
        have hbs : b ≤ s.size := by omega
        clear hkz hdr hend
        go_wp2_with fail
        refine HLE.out.mono ?_
        rintro e w1 ⟨rfl, rfl⟩
        clear HLE
        go_wp2_with (at_builtin; go_loud (refine wpList_appT (t := 113) (T := 117) Tryz.underlying113 infoR rfl (by omega) rfl _ _ rfl w.heap.size O (tokE (s.data.toList.drop p) p) _ _ _ _ HTV.out u5 rfl HO.out _ rfl rfl HLN.out HG.out.size ?_))
        intro g' cap' w6 hO6 hB6
        have HO6 := Lib.hid hO6
        have HG6 : Hid (w.grownBy w6 none) := Lib.hid (below_gb (Below.trans2 (gb_below HG.out) hB6))
        clear hO6 hB6 HO
        obtain ⟨q, c, hq, hqt, hc1, hc2, hqb⟩ := HO6.out.is
        injection hq with hq1 hq2 hq3
        subst hq1; subst hq3
        rw [List.length_append, List.length_singleton] at hc1
        have HQT := Lib.hid hqt; have HC := Lib.hid hc1; have HC2 := Lib.hid hc2
        have HLL : Hid ((O ++ [tokE (s.data.toList.drop p) p]).length = O.length + 1) := Lib.hid (by simp)
        clear hqt hc1 hc2 hqb hq2
        go_wp2_with fail
        go_ret3
        rw [← HLL.out]
        exact rdone_post HBIG.out HAL.out HG6.out rfl HQT.out (by rw [HLL.out]; exact HC.out) HC2.out
      · have hbs : b < s.size := by omega
        have e1 : ((b : Int) == (s.size : Int)) = false := beq_eq_false_iff_ne.2 (by omega)
        have e1' : (b == s.size) = false := beq_eq_false_iff_ne.2 hend
        obtain ⟨n, hn⟩ : ∃ n, wrongE k (s.extract b (b + z)).data.toList = n := ⟨_, rfl⟩
        have HN := Lib.hid hn
        have hk5n : k ≠ 5 := fun e => by
          have h1 := (firstE_kind (s.data.toList.drop b)).2
          rw [hkz] at h1
          have := h1.1 e
          rw [drop_at hbs] at this; cases this
        have HTO := Lib.hid (rtoken_c s b wr hs hbs)
        unfold TokPost at HTO
        rw [hkz] at HTO
        simp only at HTO
        rw [← ext_take, hn] at HTO
        clear hn hkz hend
        by_cases hn0 : n = 0
        · subst hn0
          have hTO := HTO.out
          simp only [ne_eq, not_true_eq_false, if_false] at hTO
          have HTO2 := Lib.hid hTO
          clear hTO HTO
          obtain ⟨c, hc⟩ : ∃ c, b + z = c := ⟨_, rfl⟩
          rw [hc] at HTO2 HTK hpz HST
          have hbc : b ≤ c := by omega
          have HTV : Hid (tokV (tokE (s.data.toList.drop p) p) = [.int .i64 (k : Int), .string (s.extract p b), .string (s.extract b c), .int .i64 (b : Int)]) := Lib.hid (by rw [HTK.out]; rfl)
          have hr2 := (HR.out.more (by rw [HTK.out]; simp only; rw [← hc]; exact HN.out) (by rw [HTK.out]; exact hk5n)).1
          rw [HST.out] at hr2
          have hpc : p < c := by have := HRB.out HN.out hk5n; have := HAB.out; omega
          have HR2 := Lib.hid hr2
          clear hr2 hc
          go_wp2_with fail
          refine HLE.out.mono ?_
          rintro e w1 ⟨rfl, rfl⟩
          clear HLE
          go_wp2_with fail
          refine HTO2.out.mono ?_
          rintro e w1 ⟨hg1, rfl⟩
          have HG1 := Lib.hid (gb_trans HG.out hg1)
          have HO1 := Lib.hid (HO.out.kept hg1)
          clear hg1 HTO2 HO HG
          go_wp2_with fail
          obtain ⟨hx, hxe⟩ : ∃ hx, w1.heap.size = hx := ⟨_, rfl⟩
          have hgb := World.grownBy_alloc w1 (.cells #[.int .i64 (k : Int), .string (s.extract p b), .string (s.extract b c), .int .i64 (b : Int)] 117) none
          have hnew := heap_alloc_new w1 (.cells #[.int .i64 (k : Int), .string (s.extract p b), .string (s.extract b c), .int .i64 (b : Int)] 117)
          have hta : (tokV (tokE (s.data.toList.drop p) p)).toArray = #[.int .i64 (k : Int), .string (s.extract p b), .string (s.extract b c), .int .i64 (b : Int)] := by rw [HTV.out]
          rw [hxe, ← hta] at hnew
          rw [← hta] at hgb
          have hbs2 : b ≤ s.size := by omega
          have HNEW := Lib.hid hnew; have HHX := Lib.hid hxe
          have HO5 := Lib.hid (HO1.out.kept hgb); have HG6 := Lib.hid (gb_trans HG1.out hgb)
          rw [hta] at HNEW HO5 HG6
          clear hgb hnew hta HO1
          go_region_law (refine step_appT (t := 113) (T := 117) Tryz.underlying113 infoR rfl (by omega) rfl _ _ rfl w.heap.size O (tokE (s.data.toList.drop p) p) u5 rfl (HO5.out.kept (gb_drew (gb_refl _ _))) hx (by rw [HTV.out]; exact HNEW.out) rfl HLN.out HG6.out.size ?_; intro g9 cap9 w9 hO9 hB9; have HO9 := Lib.hid hO9; have HB9 := Lib.hid hB9; clear hO9 hB9)
          all_goals
            have HG10 : Hid (w.grownBy w9 none) := Lib.hid (below_gb (Below.trans2 (gb_below (gb_drew HG6.out)) HB9.out))
            go_wp2_with fail
            go_roundw
            case rel => exact ⟨c, _, hpz, by first | rfl | trivial, HR2, HO9, HG10⟩
            case measure => (simp [intOf] <;> omega)
        · have d1 : ((n : Int) == 0) = false := beq_eq_false_iff_ne.2 (by omega)
          have d2 : ((n : Int) != 0) = true := by rw [bne, d1]; rfl
          have hTO := HTO.out
          simp only [ne_eq, hn0, not_false_eq_true, if_true] at hTO
          have HTO2 := Lib.hid hTO
          have HFA : Hid ((allE s.data.toList).2 = (n, b)) := Lib.hid (by
            have := HR.out.fault (by rw [HTK.out]; simp only; rw [HN.out]; exact hn0)
            rw [HTK.out] at this
            simp only at this
            rw [HN.out] at this; exact this)
          clear hTO HTO
          go_wp2_with fail
          refine HLE.out.mono ?_
          rintro e w1 ⟨rfl, rfl⟩
          clear HLE
          go_wp2_with fail
          refine HTO2.out.mono ?_
          rintro e w1 ⟨hg1, rfl⟩
          have HG1 := Lib.hid (gb_trans HG.out hg1)
          clear hg1 HTO2 HG
          go_wp2_with fail
          go_ret3
          exact rfault_post HBIG.out HFA.out hn0 HG1.out rfl
end Go.Proofs.YtccokidhngdjnaaGreatDoor
