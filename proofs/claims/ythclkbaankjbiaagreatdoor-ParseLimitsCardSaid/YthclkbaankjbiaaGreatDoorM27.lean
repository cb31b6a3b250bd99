/- The tokens of a text, as the document tells them. -/
import Derived.Test.YthclkbaankjbiaaGreatDoorM6
import Derived.Test.YthclkbaankjbiaaGreatDoorERef4
import Derived.Test.YthclkbaankjbiaaGreatDoorM22
import Derived.Test.YthclkbaankjbiaaGreatDoorQDef
import Derived.Test.YthclkbaankjbiaaGreatDoorM24
import Derived.Test.YthclkbaankjbiaaGreatDoorM25
namespace Go.Proofs.YthclkbaankjbiaaGreatDoor
open Go.RowKit

/-- What the document's Lex answers. -/
def RLexPost (l : List UInt8) (w : World) (e : Ending) (w' : World) : Prop :=
  w.grownBy w' none ∧ if 65536 < l.length then e = .returned (.tuple #[.slice none 0 0, .int .i64 11, .int .i64 0])
    else if (allE l).2.1 ≠ 0 then e = .returned (.tuple #[.slice none 0 0, .int .i64 ((allE l).2.1 : Nat), .int .i64 ((allE l).2.2 : Nat)])
    else ∃ q c, e = .returned (.tuple #[.slice q (allE l).1.length c, .int .i64 0, .int .i64 0]) ∧ TAt w' q (allE l).1 ∧ (allE l).1.length ≤ c ∧ c ≤ maxLen

theorem rbig_post {s : ByteArray} {w w' : World} {e : Ending} (hs : 65536 < s.size) (hg : w.grownBy w' none) (he : e = .returned (.tuple #[.slice none 0 0, .int .i64 11, .int .i64 0])) : RLexPost s.data.toList w e w' := by
  refine ⟨hg, ?_⟩
  rw [list_len, if_pos hs]; exact he
theorem rfault_post {s : ByteArray} {w w' : World} {e : Ending} {n p : Nat} (hs : ¬ 65536 < s.size) (hf : (allE s.data.toList).2 = (n, p)) (hn : n ≠ 0) (hg : w.grownBy w' none) (he : e = .returned (.tuple #[.slice none 0 0, .int .i64 (n : Int), .int .i64 (p : Int)])) : RLexPost s.data.toList w e w' := by
  refine ⟨hg, ?_⟩
  rw [list_len, if_neg hs, hf, if_pos hn]; exact he
theorem rdone_post {s : ByteArray} {w w' : World} {e : Ending} {O : List Tok} {q : Option Addr} {c : Nat} (hs : ¬ 65536 < s.size) (hf : allE s.data.toList = (O, 0, 0)) (hg : w.grownBy w' none) (he : e = .returned (.tuple #[.slice q O.length c, .int .i64 0, .int .i64 0])) (ht : TAt w' q O) (h1 : O.length ≤ c) (h2 : c ≤ maxLen) : RLexPost s.data.toList w e w' := by
  refine ⟨hg, ?_⟩
  rw [list_len, if_neg hs, hf, if_neg (by simp)]; exact ⟨q, c, he, ht, h1, h2⟩

set_option maxRecDepth 100000 in
set_option maxHeartbeats 8000000 in
theorem RLex_c (s : ByteArray) (w : World) (hs : s.size ≤ 1000000) : Calls Tryz.prog 20 #[.string s] w (RLexPost s.data.toList w) := by
  by_cases hbig : 65536 < s.size
  · have d1 : decide ((65536 : Int) < (s.size : Int)) = true := decide_eq_true (by omega)
    have d1' : decide (65536 < s.size) = true := decide_eq_true hbig
    go_enter Tryz.func20, Tryz.ntmps20
    go_wp2_with fail
    go_ret3
    exact rbig_post hbig (gb_refl _ _) rfl
  · have d1 : decide ((65536 : Int) < (s.size : Int)) = false := decide_eq_false (by omega)
    have d1' : decide (65536 < s.size) = false := decide_eq_false hbig
    have HBIG := Lib.hid hbig
    go_enter Tryz.func20, Tryz.ntmps20
    go_wp2_with fail
    clear d1 d1'
    go_loopw [5, 6] (fun ov pv wr => ∃ (p : Nat) (O : List Tok), p ≤ s.size ∧ pv = .int .i64 p ∧ Hid (RestE s.data.toList O p) ∧ Hid (OwnT 81 wr w.heap.size ov O) ∧ Hid (w.grownBy wr none)) (fun _ pv _ => s.size - (intOf pv).toNat)
    case atStart => exact ⟨0, [], Nat.zero_le _, rfl, Lib.hid (RestE.start _), Lib.hid (OwnT.nil _ _ _), gb_refl _ _⟩
    case round =>
      obtain ⟨p, O, hp, rfl, HR, HO, HG⟩ := hrel
      obtain ⟨a, k, z, ha, hkz, hk5, hpz, hst, htk⟩ := tok_parts s hp
      have HLE := Lib.hid (rlead_c s p wr hs hp)
      rw [ha] at HLE
      have HRB : Hid (∀ h : wrongE k (s.extract (p + a) (p + a + z)).data.toList = 0, k ≠ 5 → 0 < a + z) := Lib.hid (fun h h5 => by
        have := (HR.out.more (by rw [htk]; exact h) (by rw [htk]; exact h5)).2
        rw [hst] at this; exact this)
      obtain ⟨b, hb⟩ : ∃ b, p + a = b := ⟨_, rfl⟩
      have hpb : p ≤ b := by omega
      have hst2 : p + stepE (s.data.toList.drop p) = b + z := by rw [hst]; omega
      rw [hb] at HLE hkz hpz htk HRB
      have HTK := Lib.hid htk; have HST := Lib.hid hst2; have HAB := Lib.hid hb
      have HLN : Hid (O.length ≤ 1000000) := Lib.hid (by have := HR.out.2.1; omega)
      clear ha htk hst hst2 hb
      by_cases hend : b = s.size
      · have hdr : s.data.toList.drop b = [] := drop_end (by omega)
        rw [hdr] at hkz
        have hk : k = 5 ∧ z = 0 := by simp [firstE] at hkz; omega
        obtain ⟨rfl, rfl⟩ := hk
        have HTV : Hid (tokV (tokE (s.data.toList.drop p) p) = [.int .i64 5, .string (s.extract p b), .string ⟨#[]⟩, .int .i64 (b : Int)]) := Lib.hid (by
          have : (s.extract b (b + 0)) = ⟨#[]⟩ := ba_data _ (by rw [ext_take, hdr]; rfl)
          rw [HTK.out, this]; rfl)
        have HAL : Hid (allE s.data.toList = (O ++ [tokE (s.data.toList.drop p) p], 0, 0)) := Lib.hid (HR.out.done (by rw [HTK.out]; rfl) (by rw [HTK.out]))
        have e1 : ((b : Int) == (s.size : Int)) = true := by rw [hend]; simp
        have e1' : (b == s.size) = true := by rw [hend]; simp
        have hbs : b ≤ s.size := by omega
        clear hkz hdr hend
        go_wp2_with fail
        refine HLE.out.mono ?_
        rintro e w1 ⟨rfl, rfl⟩
        clear HLE
        go_wp2_with (at_builtin; go_loud (refine wpList_appT (t := 49) (T := 81) Tryz.underlying49 infoR rfl (by omega) rfl _ _ rfl w.heap.size O (tokE (s.data.toList.drop p) p) _ _ _ _ HTV.out u5 rfl HO.out _ rfl rfl HLN.out HG.out.size ?_))
        intro g' cap' w6 hO6 hB6
        have HO6 := Lib.hid hO6
        have HG6 : Hid (w.grownBy w6 none) := Lib.hid (below_gb (Below.trans2 (gb_below HG.out) hB6))
        clear hO6 hB6 HO
        obtain ⟨q, c, hq, hqt, hc1, hc2, hqb⟩ := HO6.out.is
        injection hq with hq1 hq2 hq3
        subst hq1; subst hq3
        rw [List.length_append, List.length_singleton] at hc1
        have HQT := Lib.hid hqt; have HC := Lib.hid hc1; have HC2 := Lib.hid hc2
        have HLL : Hid ((O ++ [tokE (s.data.toList.drop p) p]).length = O.length + 1) := Lib.hid (by simp)
        clear hqt hc1 hc2 hqb hq2
        go_wp2_with fail
        go_ret3
        rw [← HLL.out]
        exact rdone_post HBIG.out HAL.out HG6.out rfl HQT.out (by rw [HLL.out]; exact HC.out) HC2.out
      · have hbs : b < s.size := by omega
        have e1 : ((b : Int) == (s.size : Int)) = false := beq_eq_false_iff_ne.2 (by omega)
        have e1' : (b == s.size) = false := beq_eq_false_iff_ne.2 hend
        obtain ⟨n, hn⟩ : ∃ n, wrongE k (s.extract b (b + z)).data.toList = n := ⟨_, rfl⟩
        have HN := Lib.hid hn
        have hk5n : k ≠ 5 := fun e => by
          have h1 := (firstE_kind (s.data.toList.drop b)).2
          rw [hkz] at h1
          have := h1.1 e
          rw [drop_at hbs] at this; cases this
        have HTO := Lib.hid (rtoken_c s b wr hs hbs)
        unfold TokPost at HTO
        rw [hkz] at HTO
        simp only at HTO
        rw [← ext_take, hn] at HTO
        clear hn hkz hend
        by_cases hn0 : n = 0
        · subst hn0
          have hTO := HTO.out
          simp only [ne_eq, not_true_eq_false, if_false] at hTO
          have HTO2 := Lib.hid hTO
          clear hTO HTO
          obtain ⟨c, hc⟩ : ∃ c, b + z = c := ⟨_, rfl⟩
          rw [hc] at HTO2 HTK hpz HST
          have hbc : b ≤ c := by omega
          have HTV : Hid (tokV (tokE (s.data.toList.drop p) p) = [.int .i64 (k : Int), .string (s.extract p b), .string (s.extract b c), .int .i64 (b : Int)]) := Lib.hid (by rw [HTK.out]; rfl)
          have hr2 := (HR.out.more (by rw [HTK.out]; simp only; rw [← hc]; exact HN.out) (by rw [HTK.out]; exact hk5n)).1
          rw [HST.out] at hr2
          have hpc : p < c := by have := HRB.out HN.out hk5n; have := HAB.out; omega
          have HR2 := Lib.hid hr2
          clear hr2 hc
          go_wp2_with fail
          refine HLE.out.mono ?_
          rintro e w1 ⟨rfl, rfl⟩
          clear HLE
          go_wp2_with fail
          refine HTO2.out.mono ?_
          rintro e w1 ⟨hg1, rfl⟩
          have HG1 := Lib.hid (gb_trans HG.out hg1)
          have HO1 := Lib.hid (HO.out.kept hg1)
          clear hg1 HTO2 HO HG
          go_wp2_with fail
          obtain ⟨hx, hxe⟩ : ∃ hx, w1.heap.size = hx := ⟨_, rfl⟩
          have hgb := World.grownBy_alloc w1 (.cells #[.int .i64 (k : Int), .string (s.extract p b), .string (s.extract b c), .int .i64 (b : Int)] 81) none
          have hnew := heap_alloc_new w1 (.cells #[.int .i64 (k : Int), .string (s.extract p b), .string (s.extract b c), .int .i64 (b : Int)] 81)
          have hta : (tokV (tokE (s.data.toList.drop p) p)).toArray = #[.int .i64 (k : Int), .string (s.extract p b), .string (s.extract b c), .int .i64 (b : Int)] := by rw [HTV.out]
          rw [hxe, ← hta] at hnew
          rw [← hta] at hgb
          have hbs2 : b ≤ s.size := by omega
          have HNEW := Lib.hid hnew; have HHX := Lib.hid hxe
          have HO5 := Lib.hid (HO1.out.kept hgb); have HG6 := Lib.hid (gb_trans HG1.out hgb)
          rw [hta] at HNEW HO5 HG6
          clear hgb hnew hta HO1
          go_region_law (refine step_appT (t := 49) (T := 81) Tryz.underlying49 infoR rfl (by omega) rfl _ _ rfl w.heap.size O (tokE (s.data.toList.drop p) p) u5 rfl (HO5.out.kept (gb_drew (gb_refl _ _))) hx (by rw [HTV.out]; exact HNEW.out) rfl HLN.out HG6.out.size ?_; intro g9 cap9 w9 hO9 hB9; have HO9 := Lib.hid hO9; have HB9 := Lib.hid hB9; clear hO9 hB9)
          all_goals
            have HG10 : Hid (w.grownBy w9 none) := Lib.hid (below_gb (Below.trans2 (gb_below (gb_drew HG6.out)) HB9.out))
            go_wp2_with fail
            go_roundw
            case rel => exact ⟨c, _, hpz, by first | rfl | trivial, HR2, HO9, HG10⟩
            case measure => (simp [intOf] <;> omega)
        · have d1 : ((n : Int) == 0) = false := beq_eq_false_iff_ne.2 (by omega)
          have d2 : ((n : Int) != 0) = true := by rw [bne, d1]; rfl
          have hTO := HTO.out
          simp only [ne_eq, hn0, not_false_eq_true, if_true] at hTO
          have HTO2 := Lib.hid hTO
          have HFA : Hid ((allE s.data.toList).2 = (n, b)) := Lib.hid (by
            have := HR.out.fault (by rw [HTK.out]; simp only; rw [HN.out]; exact hn0)
            rw [HTK.out] at this
            simp only at this
            rw [HN.out] at this; exact this)
          clear hTO HTO
          go_wp2_with fail
          refine HLE.out.mono ?_
          rintro e w1 ⟨rfl, rfl⟩
          clear HLE
          go_wp2_with fail
          refine HTO2.out.mono ?_
          rintro e w1 ⟨hg1, rfl⟩
          have HG1 := Lib.hid (gb_trans HG.out hg1)
          clear hg1 HTO2 HG
          go_wp2_with fail
          go_ret3
          exact rfault_post HBIG.out HFA.out hn0 HG1.out rfl
end Go.Proofs.YthclkbaankjbiaaGreatDoor
namespace Go.Proofs.YthclkbaankjbiaaGreatDoor
open Go.RowKit

theorem end_all {l : List UInt8} (h : (allE l).2.1 = 0) : EndT (allE l).1 ∧ (allE l).1 ≠ [] := ⟨fun i t ht => ((place_all h).1 i t ht).2.1, (place_all h).2⟩
theorem room_whole : ∀ T : List Tok, roomQ T T.length ≤ (wholeL T).length + 8 * T.length := by
  intro T
  unfold roomQ
  rw [List.take_of_length_le (Nat.le_refl _)]
  induction T with
  | nil => simp [wholeL]
  | cons a T ih =>
    have e : wholeL (a :: T) = a.lead ++ a.text ++ wholeL T := by simp [wholeL]
    rw [e]
    simp only [List.map_cons, List.sum_cons, List.length_cons, List.length_append]; omega
theorem room_all {l : List UInt8} (h : (allE l).2.1 = 0) (hl : l.length ≤ 65536) : roomQ (allE l).1 (allE l).1.length ≤ 10000000 := by
  have h1 := room_whole (allE l).1
  rw [whole_all h] at h1
  have h2 := len_all h
  omega

def startQ : St := ⟨0, false, 0, 0⟩
def resQ (r : RQ) : List UInt8 × Nat × Nat := if r.2.e = 0 then (r.1, 0, 0) else ([], r.2.e, r.2.pos)
def treeQ (T : List Tok) (D : Nat) (f : Bool) : RQ := if f = true then aloneQ T (nxQ T D D).expr startQ else programQ T (nxQ T D D).expr startQ
/-- What the reference answers. -/
def parseQ (l : List UInt8) (D : Nat) (f : Bool) : List UInt8 × Nat × Nat :=
  if 65536 < l.length then ([], 11, 0)
  else if (allE l).2.1 ≠ 0 then ([], (allE l).2.1, (allE l).2.2)
  else resQ (treeQ (allE l).1 D f)
def RParsePost (r : List UInt8 × Nat × Nat) (w : World) (e : Ending) (w' : World) : Prop :=
  (∃ x : ByteArray, e = .returned (.tuple #[.string x, .int .i64 (r.2.1 : Int), .int .i64 (r.2.2 : Int)]) ∧ x.data.toList = r.1) ∧ w.grownBy w' none

theorem tree_c (b : Nat) (q : Option Addr) (c : Nat) (T : List Tok) (D : Nat) (hE : EndT T) (hR : roomQ T T.length ≤ 10000000) (hD : D ≤ 200) :
    (∀ w s, PAt w b q c T D s → Calls Tryz.prog 21 #[.pointer (some ⟨b, 0, none⟩)] w (RPost b q c T D (aloneQ T (nxQ T D D).expr s) w)) ∧
    (∀ w s, PAt w b q c T D s → Calls Tryz.prog 22 #[.pointer (some ⟨b, 0, none⟩)] w (RPost b q c T D (programQ T (nxQ T D D).expr s) w)) := by
  have hx : SubC b q c T D 44 1 (nxQ T D D).expr := (nx_c b q c T D hE hR (by omega) D 1 (by omega)).expr
  have fx := (nx_fits T D D).1
  have ty : SubN b q c T D 84 (typedQ T (nxQ T D D).expr) := fun s w h => typed_c b q c T D hE hR _ hx fx s w h
  have pa : SubN b q c T D 83 (paramsQ T (nxQ T D D).expr) := fun s w h => params_c b q c T D hE hR _ ty fx s w h
  have de : SubN b q c T D 50 (defQ T (nxQ T D D).expr) := fun s w h => def_c b q c T D hE hR _ hx fx ty (typed_fits fx) pa (params_fits fx) s w h
  exact ⟨fun w s h => alone_c b q c T D hE hR _ hx fx s w h, fun w s h => program_c b q c T D hE hR _ de fx s w h⟩

set_option maxRecDepth 100000 in
set_option maxHeartbeats 8000000 in
theorem RParse_c (s : ByteArray) (D : Int) (f : Bool) (w : World) (hs : s.size ≤ 1000000) (hDm : 0 ≤ D) (hDx : D ≤ 1000000) : Calls Tryz.prog 10 #[.string s, .int .i64 D, .bool f] w (RParsePost (if D < 1 ∨ 200 < D then ([], 12, 0) else parseQ s.data.toList D.toNat f) w) := by
  obtain ⟨d, rfl⟩ : ∃ d : Nat, D = (d : Int) := ⟨D.toNat, by omega⟩
  rw [Int.toNat_natCast]
  by_cases h1 : d < 1
  · have e1 : decide (d < 1) = true := decide_eq_true h1
    have e1' : decide ((d : Int) < 1) = true := decide_eq_true (by omega)
    rw [if_pos (.inl (by omega))]
    go_enter Tryz.func10, Tryz.ntmps10
    go_wp2_with fail
    go_ret3
    exact ⟨⟨_, rfl, rfl⟩, gb_refl _ _⟩
  · have e1 : decide (d < 1) = false := decide_eq_false h1
    have e1' : decide ((d : Int) < 1) = false := decide_eq_false (by omega)
    by_cases h2 : 200 < d
    · have e2 : decide (200 < d) = true := decide_eq_true h2
      have e2' : decide ((200 : Int) < (d : Int)) = true := decide_eq_true (by omega)
      rw [if_pos (.inr (by omega))]
      go_enter Tryz.func10, Tryz.ntmps10
      go_wp2_with fail
      go_ret3
      exact ⟨⟨_, rfl, rfl⟩, gb_refl _ _⟩
    · have e2 : decide (200 < d) = false := decide_eq_false h2
      have e2' : decide ((200 : Int) < (d : Int)) = false := decide_eq_false (by omega)
      rw [if_neg (by omega)]
      have HLX := Lib.hid (RLex_c s w hs)
      have HD1 := Lib.hid (Nat.not_lt.1 h2)
      obtain ⟨l, hl⟩ : ∃ l, s.data.toList = l := ⟨_, rfl⟩
      rw [hl] at HLX ⊢
      obtain ⟨R, hRR⟩ : ∃ R, parseQ l d f = R := ⟨_, rfl⟩
      have HRR := Lib.hid hRR
      rw [hRR]
      clear hl hs h1 h2 hDm hDx hRR
      go_enter Tryz.func10, Tryz.ntmps10
      go_wp2_with fail
      refine HLX.out.mono ?_
      rintro e w1 ⟨hg1, he⟩
      have HG1 := Lib.hid hg1
      clear hg1 HLX
      by_cases hbig : 65536 < l.length
      · rw [if_pos hbig] at he
        subst he
        have HZ : Hid (R = ([], 11, 0)) := Lib.hid (by rw [← HRR.out]; unfold parseQ; rw [if_pos hbig])
        clear hbig
        go_wp2_with fail
        go_ret3
        rw [HZ.out]
        exact ⟨⟨_, rfl, rfl⟩, HG1.out⟩
      · rw [if_neg hbig] at he
        by_cases hbad : (allE l).2.1 ≠ 0
        · rw [if_pos hbad] at he
          have HZ : Hid (R = ([], (allE l).2.1, (allE l).2.2)) := Lib.hid (by rw [← HRR.out]; unfold parseQ; rw [if_neg hbig, if_pos hbad])
          obtain ⟨E, hE⟩ : ∃ E, (allE l).2.1 = E := ⟨_, rfl⟩
          obtain ⟨A, hA⟩ : ∃ A, (allE l).2.2 = A := ⟨_, rfl⟩
          rw [hE, hA] at he HZ
          rw [hE] at hbad
          subst he
          have e3 : (E == 0) = false := beq_eq_false_iff_ne.2 hbad
          have e3' : ((E : Int) == 0) = false := beq_eq_false_iff_ne.2 (by omega)
          have e4 : (E != 0) = true := bne_iff_ne.2 hbad
          have e4' : ((E : Int) != 0) = true := bne_iff_ne.2 (by omega)
          clear hbad hbig hE hA
          go_wp2_with fail
          go_ret3
          rw [HZ.out]
          exact ⟨⟨_, rfl, rfl⟩, HG1.out⟩
        · rw [if_neg hbad] at he
          have hgood : (allE l).2.1 = 0 := by omega
          have HZ : Hid (R = resQ (treeQ (allE l).1 d f)) := Lib.hid (by rw [← HRR.out]; unfold parseQ; rw [if_neg hbig, if_neg hbad])
          obtain ⟨q, c, he, hT, -, -⟩ := he
          obtain ⟨hEnd, hne⟩ := end_all hgood
          have hroom := room_all hgood (by omega)
          obtain ⟨T, hTT⟩ : ∃ T, (allE l).1 = T := ⟨_, rfl⟩
          rw [hTT] at he hT hEnd hne hroom HZ
          subst he
          have hpos : 0 < T.length := List.length_pos_iff.2 hne
          have HT := Lib.hid hT; have HEn := Lib.hid hEnd; have HRo := Lib.hid hroom; have HPos := Lib.hid hpos
          have HPA : Hid (PAt (w1.alloc (.cells #[.slice q T.length c, .int .i64 0, .int .i64 (d : Int), .bool false, .int .i64 0, .int .i64 0] 54)) w1.heap.size q c T d startQ) := Lib.hid ⟨heap_alloc_new _ _, HT.out.kept (World.grownBy_alloc _ _ _), fun a ha => by
            rcases HT.out with h0 | ⟨g, off, e, hl, -⟩
            · exact absurd h0 hne
            · rw [ha] at e; cases e; show g ≠ w1.heap.size; omega, HPos.out⟩
          have HTR := Lib.hid (tree_c w1.heap.size q c T d HEn.out HRo.out HD1.out)
          have HGA : Hid (∀ w2, Fr2 (Self w1.heap.size) (w1.alloc (.cells #[.slice q T.length c, .int .i64 0, .int .i64 (d : Int), .bool false, .int .i64 0, .int .i64 0] 54)) w2 → w.grownBy w2 none) := Lib.hid (fun w2 hf => gb_trans HG1.out (Fr2.after (World.grownBy_alloc w1 _ none) hf (fun i hi => by cases hi; exact Nat.le_refl _)))
          obtain ⟨m, hm⟩ : ∃ m, T.length = m := ⟨_, rfl⟩
          rw [hm] at HPA HGA ⊢
          clear hbad hbig hgood hTT hT hEnd hroom HRR hne hpos hm
          cases f
          · have HTQ : Hid (treeQ T d false = programQ T (nxQ T d d).expr startQ) := Lib.hid (by unfold treeQ; simp)
            rw [HTQ.out] at HZ
            go_wp2_with fail
            refine (HTR.out.2 _ _ HPA.out).mono ?_
            rintro e w2 ⟨⟨x, rfl, hx⟩, h2, f2⟩
            have HX := Lib.hid hx; have HGW := Lib.hid (HGA.out _ f2); have HP2 := Lib.hid h2
            obtain ⟨z, hz⟩ : ∃ z, programQ T (nxQ T d d).expr startQ = z := ⟨_, rfl⟩
            rw [hz] at HX HZ HP2
            clear hx h2 f2 hz HPA HGA HTR
            obtain ⟨b, hb⟩ : ∃ b, w1.heap.size = b := ⟨_, rfl⟩
            rw [hb] at HP2 ⊢
            obtain ⟨d0, d1, d2, d3, d4, d5, d6⟩ := cells6 HP2.out.box
            obtain ⟨E, hE⟩ : ∃ E, z.2.e = E := ⟨_, rfl⟩
            obtain ⟨A, hA⟩ : ∃ A, z.2.pos = A := ⟨_, rfl⟩
            have HRZ : Hid (R = if E = 0 then (z.1, 0, 0) else ([], E, A)) := Lib.hid (by rw [HZ.out, ← hE, ← hA]; rfl)
            rw [hE] at d4; rw [hA] at d5
            clear hb hE hA HZ d0 d1 d2 d3
            by_cases he : E = 0
            · subst he
              go_wp2_with fail
              go_ret3
              rw [HRZ.out]
              exact ⟨⟨_, rfl, HX.out⟩, HGW.out⟩
            · have e2 : (E == 0) = false := beq_eq_false_iff_ne.2 he
              have e2' : ((E : Int) == 0) = false := beq_eq_false_iff_ne.2 (by omega)
              have e3 : (E != 0) = true := bne_iff_ne.2 he
              have e3' : ((E : Int) != 0) = true := bne_iff_ne.2 (by omega)
              rw [if_neg he] at HRZ
              clear he
              go_wp2_with fail
              go_quiet (fail)
              go_wp2_with fail
              go_ret3
              rw [HRZ.out]
              exact ⟨⟨_, rfl, rfl⟩, gb_drewN HGW.out _⟩
          · have HTQ : Hid (treeQ T d true = aloneQ T (nxQ T d d).expr startQ) := Lib.hid (by unfold treeQ; simp)
            rw [HTQ.out] at HZ
            go_wp2_with fail
            refine (HTR.out.1 _ _ HPA.out).mono ?_
            rintro e w2 ⟨⟨x, rfl, hx⟩, h2, f2⟩
            have HX := Lib.hid hx; have HGW := Lib.hid (HGA.out _ f2); have HP2 := Lib.hid h2
            obtain ⟨z, hz⟩ : ∃ z, aloneQ T (nxQ T d d).expr startQ = z := ⟨_, rfl⟩
            rw [hz] at HX HZ HP2
            clear hx h2 f2 hz HPA HGA HTR
            obtain ⟨b, hb⟩ : ∃ b, w1.heap.size = b := ⟨_, rfl⟩
            rw [hb] at HP2 ⊢
            obtain ⟨d0, d1, d2, d3, d4, d5, d6⟩ := cells6 HP2.out.box
            obtain ⟨E, hE⟩ : ∃ E, z.2.e = E := ⟨_, rfl⟩
            obtain ⟨A, hA⟩ : ∃ A, z.2.pos = A := ⟨_, rfl⟩
            have HRZ : Hid (R = if E = 0 then (z.1, 0, 0) else ([], E, A)) := Lib.hid (by rw [HZ.out, ← hE, ← hA]; rfl)
            rw [hE] at d4; rw [hA] at d5
            clear hb hE hA HZ d0 d1 d2 d3
            by_cases he : E = 0
            · subst he
              go_wp2_with fail
              go_ret3
              rw [HRZ.out]
              exact ⟨⟨_, rfl, HX.out⟩, HGW.out⟩
            · have e2 : (E == 0) = false := beq_eq_false_iff_ne.2 he
              have e2' : ((E : Int) == 0) = false := beq_eq_false_iff_ne.2 (by omega)
              have e3 : (E != 0) = true := bne_iff_ne.2 he
              have e3' : ((E : Int) != 0) = true := bne_iff_ne.2 (by omega)
              rw [if_neg he] at HRZ
              clear he
              go_wp2_with fail
              go_quiet (fail)
              go_wp2_with fail
              go_ret3
              rw [HRZ.out]
              exact ⟨⟨_, rfl, rfl⟩, gb_drewN HGW.out _⟩
end Go.Proofs.YthclkbaankjbiaaGreatDoor
