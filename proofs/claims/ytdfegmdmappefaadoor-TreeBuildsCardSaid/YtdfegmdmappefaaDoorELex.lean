/- The tokens of a text, as the program finds them. -/
import Derived.Test.YtdfegmdmappefaaDoorEToks
import Derived.Test.YtdfegmdmappefaaDoorSBuild
namespace Go.Proofs.YtdfegmdmappefaaDoor
open Go.RowKit

def ValPost (v : Value) (w : World) (e : Ending) (w' : World) : Prop := e = .returned v ∧ w.grownBy w' none

set_option maxRecDepth 100000 in
theorem Clone_c (s : ByteArray) (w : World) (hlim : s.size ≤ 281474976710656) : Calls Tryd.prog 39 #[.string s] w (ValPost (.string s) w) := by
  have H := Lib.hid (Tryd.stringslite_Clone s w hlim)
  go_enter Tryd.func39, Tryd.ntmps39
  go_wp2_with fail
  refine H.out.mono ?_
  rintro e w1 ⟨rfl, hb⟩
  have HB := Lib.hid hb
  clear hb
  go_wp2_with fail
  go_ret
  exact ⟨rfl, below_gb HB.out⟩

/-- What Lex answers. -/
def LexPost (l : List UInt8) (w : World) (e : Ending) (w' : World) : Prop :=
  w.grownBy w' none ∧ if 65536 < l.length then e = .returned (.tuple #[.slice none 0 0, .agg #[.int .i64 11, .int .i64 0]])
    else if (allE l).2.1 ≠ 0 then e = .returned (.tuple #[.slice none 0 0, .agg #[.int .i64 ((allE l).2.1 : Nat), .int .i64 ((allE l).2.2 : Nat)]])
    else ∃ q c, e = .returned (.tuple #[.slice q (allE l).1.length c, .agg #[.int .i64 0, .int .i64 0]]) ∧ TAt w' q (allE l).1 ∧ (allE l).1.length ≤ c ∧ c ≤ maxLen

theorem tok_parts (s : ByteArray) {p : Nat} (hp : p ≤ s.size) : ∃ a k z, sk false (s.data.toList.drop p) = a ∧ firstE (s.data.toList.drop (p + a)) = (k, z) ∧ k ≤ 5 ∧ p + a + z ≤ s.size ∧ stepE (s.data.toList.drop p) = a + z ∧
    tokE (s.data.toList.drop p) p = ⟨k, (s.extract p (p + a)).data.toList, (s.extract (p + a) (p + a + z)).data.toList, p + a⟩ := by
  obtain ⟨a, ha⟩ : ∃ a, sk false (s.data.toList.drop p) = a := ⟨_, rfl⟩
  obtain ⟨k, z, hkz⟩ : ∃ k z, firstE (s.data.toList.drop (p + a)) = (k, z) := ⟨_, _, rfl⟩
  have h1 := sk_le (s.data.toList.drop p) false
  have h2 := firstE_le (s.data.toList.drop (p + a))
  have h3 := (firstE_kind (s.data.toList.drop (p + a))).1
  rw [ha, List.length_drop, list_len] at h1
  rw [hkz] at h2 h3
  rw [List.length_drop, list_len] at h2
  simp only at h2 h3
  refine ⟨a, k, z, ha, hkz, h3, by omega, ?_, ?_⟩
  · unfold stepE; rw [ha, List.drop_drop, hkz]
  · unfold tokE; rw [ha, List.drop_drop, hkz, ext_take, ext_take]

theorem big_post {s : ByteArray} {w w' : World} {e : Ending} (hs : 65536 < s.size) (hg : w.grownBy w' none) (he : e = .returned (.tuple #[.slice none 0 0, .agg #[.int .i64 11, .int .i64 0]])) : LexPost s.data.toList w e w' := by
  refine ⟨hg, ?_⟩
  rw [list_len, if_pos hs]; exact he
theorem fault_post {s : ByteArray} {w w' : World} {e : Ending} {n p : Nat} (hs : ¬ 65536 < s.size) (hf : (allE s.data.toList).2 = (n, p)) (hn : n ≠ 0) (hg : w.grownBy w' none) (he : e = .returned (.tuple #[.slice none 0 0, .agg #[.int .i64 (n : Int), .int .i64 (p : Int)]])) : LexPost s.data.toList w e w' := by
  refine ⟨hg, ?_⟩
  rw [list_len, if_neg hs, hf, if_pos hn]; exact he
theorem done_post {s : ByteArray} {w w' : World} {e : Ending} {O : List Tok} {q : Option Addr} {c : Nat} (hs : ¬ 65536 < s.size) (hf : allE s.data.toList = (O, 0, 0)) (hg : w.grownBy w' none) (he : e = .returned (.tuple #[.slice q O.length c, .agg #[.int .i64 0, .int .i64 0]])) (ht : TAt w' q O) (h1 : O.length ≤ c) (h2 : c ≤ maxLen) : LexPost s.data.toList w e w' := by
  refine ⟨hg, ?_⟩
  rw [list_len, if_neg hs, hf, if_neg (by simp)]; exact ⟨q, c, he, ht, h1, h2⟩

set_option maxRecDepth 100000 in
set_option maxHeartbeats 8000000 in
theorem Lex_c (s : ByteArray) (w : World) (hs : s.size ≤ 1000000) (hla : LaidE w) : Calls Tryd.prog 18 #[.string s] w (LexPost s.data.toList w) := by
  by_cases hbig : 65536 < s.size
  · have d1 : decide ((65536 : Int) < (s.size : Int)) = true := decide_eq_true (by omega)
    have d1' : decide (65536 < s.size) = true := decide_eq_true hbig
    go_enter Tryd.func18, Tryd.ntmps18
    go_wp2_with fail
    refine bodyPost_ret (v := .tuple #[.slice none 0 0, .agg #[.int .i64 11, .int .i64 0]]) (by simp [results, Tryd.results18, go_sem]) rfl (big_post hbig (World.grownBy_alloc w _ _) rfl)
  · have d1 : decide ((65536 : Int) < (s.size : Int)) = false := decide_eq_false (by omega)
    have d1' : decide (65536 < s.size) = false := decide_eq_false hbig
    have HBIG := Lib.hid hbig
    have HLA := Lib.hid hla
    have HB0 := Lib.hid (heap_alloc_new w (.cells #[.int .i64 0, .int .i64 0] 47))
    have HGA := Lib.hid (World.grownBy_alloc w (.cells #[.int .i64 0, .int .i64 0] 47) none)
    clear hla
    go_enter Tryd.func18, Tryd.ntmps18
    go_wp2_with fail
    refine (Clone_c s _ (by omega)).mono ?_
    rintro e w0 ⟨rfl, hg0⟩
    have HG0 := Lib.hid (gb_trans HGA.out hg0)
    have HBX0 := Lib.hid (bx hg0 HB0.out)
    have HSZ0 : Hid (w.heap.size < w0.heap.size) := Lib.hid (by have := hg0.size; simp at this; omega)
    clear hg0 d1 d1' HB0 HGA
    go_wp2_with fail
    go_loopw [4, 5] (fun ov pv wr => ∃ (p : Nat) (O : List Tok), p ≤ s.size ∧ pv = .int .i64 p ∧ Hid (RestE s.data.toList O p) ∧ Hid (OwnT 53 wr w0.heap.size ov O) ∧ Hid (w0.grownBy wr none)) (fun _ pv _ => s.size - (intOf pv).toNat)
    case atStart => exact ⟨0, [], Nat.zero_le _, rfl, Lib.hid (RestE.start _), Lib.hid (OwnT.nil _ _ _), gb_refl _ _⟩
    case round =>
      obtain ⟨p, O, hp, rfl, HR, HO, HG⟩ := hrel
      obtain ⟨a, k, z, ha, hkz, hk5, hpz, hst, htk⟩ := tok_parts s hp
      have HLS := leadSize_c (s.extract p s.size) wr (by rw [ByteArray.size_extract]; omega)
      rw [ext_end s p _ rfl, ha] at HLS
      have HLE := Lib.hid HLS
      have HF := fun W (h : LaidE W) => first_c (s.extract (p + a) s.size) W (by rw [ByteArray.size_extract]; omega) h
      rw [ext_end s (p + a) _ rfl, hkz] at HF
      simp only at HF
      have HFI := Lib.hid HF
      have HW := Lib.hid (fun W => wrong_c k hk5 (s.extract (p + a) (p + a + z)) W (by rw [ByteArray.size_extract]; omega))
      obtain ⟨n, hn⟩ : ∃ n, wrongE k (s.extract (p + a) (p + a + z)).data.toList = n := ⟨_, rfl⟩
      rw [hn] at HW
      have HTK := Lib.hid htk; have HN := Lib.hid hn; have HST := Lib.hid hst
      have hw1 : IntKind.i64.wrap ((p : Int) + (a : Int)) = (p : Int) + (a : Int) := IntWalk.i64_in _ (by omega)
      have hw2 : IntKind.i64.wrap ((p : Int) + (a : Int) + (z : Int)) = (p : Int) + (a : Int) + (z : Int) := IntWalk.i64_in _ (by omega)
      clear ha hkz hst htk hn HLS HF
      go_wp2_with fail
      refine HLE.out.mono ?_
      rintro e w1 ⟨rfl, hg1⟩
      have HG1 := Lib.hid (gb_trans HG.out hg1)
      have HO1 := Lib.hid (HO.out.kept hg1)
      clear hg1
      go_wp2_with fail
      refine (HFI.out w1 (HLA.out.kept (gb_trans HG0.out HG1.out))).mono ?_
      rintro e w2 ⟨rfl, rfl⟩
      go_wp2_with fail
      refine (HW.out w1).mono ?_
      rintro e w2 ⟨rfl, rfl⟩
      clear HLE HFI HW HG HO
      by_cases hn0 : n = 0
      · subst hn0
        have HLN : Hid (O.length ≤ 1000000) := Lib.hid (by have := HR.out.2.1; omega)
        have HTV : Hid (tokV (tokE (s.data.toList.drop p) p) = [.int .i64 (k : Int), .string (s.extract p (p + a)), .string (s.extract (p + a) (p + a + z)), .int .i64 ((p : Int) + (a : Int))]) := Lib.hid (by rw [HTK.out]; rfl)
        by_cases hk : k = 5
        · subst hk
          have HAL : Hid (allE s.data.toList = (O ++ [tokE (s.data.toList.drop p) p], 0, 0)) := Lib.hid (HR.out.done (by rw [HTK.out]; exact HN.out) (by rw [HTK.out]))
          go_wp2_with (at_builtin; go_loud (refine wpList_appT (t := 22) (T := 53) Tryd.underlying22 infoT rfl (by omega) rfl _ _ rfl w0.heap.size O (tokE (s.data.toList.drop p) p) _ _ _ _ HTV.out u4 rfl HO1.out _ rfl rfl HLN.out HG1.out.size ?_))
          intro g' cap' w6 hO6 hB6
          have HO6 := Lib.hid hO6
          have HG6 : Hid (w0.grownBy w6 none) := Lib.hid (below_gb (Below.trans2 (gb_below HG1.out) hB6))
          clear hO6 hB6 HO1
          obtain ⟨q, c, hq, hqt, hc1, hc2, hqb⟩ := HO6.out.is
          injection hq with hq1 hq2 hq3
          subst hq1; subst hq3
          rw [List.length_append, List.length_singleton] at hc1
          have HQT := Lib.hid hqt; have HC := Lib.hid hc1; have HC2 := Lib.hid hc2; have HQB := Lib.hid hqb
          have HLL : Hid ((O ++ [tokE (s.data.toList.drop p) p]).length = O.length + 1) := Lib.hid (by simp)
          have HBX := Lib.hid (bx HG6.out HBX0.out)
          obtain ⟨c0, c1, cf⟩ := cells2 HBX.out
          clear hqt hc1 hc2 hqb hq2
          go_wp2_with fail
          have hlt6 : w.heap.size < w6.heap.size := by have := HSZ0.out; have := HG6.out.size; omega
          have hne : ∀ a, some (⟨g', 0, none⟩ : Addr) = some a → w.heap.size < a.block := fun a ha => by
            have := HQB.out (by simp) a ha; have := HSZ0.out; omega
          refine bodyPost_ret (v := .tuple #[.slice (some ⟨g', 0, none⟩) (O.length + 1) cap', .agg #[.int .i64 0, .int .i64 0]]) (by simp [results, Tryd.results18, go_sem, c0, c1]) rfl ?_
          rw [← HLL.out]
          refine done_post HBIG.out HAL.out ?_ rfl ?_ ?_ HC2.out
          · exact below_gb (((gb_below (gb_trans HG0.out HG6.out)).setCell (by simp) _).setCell (by simp) _)
          · exact (HQT.out.setBox (fun _ => hne) _ _).setBox (fun _ => hne) _ _
          · rw [HLL.out]; exact HC.out
        · have d5 : ((k : Int) == 5) = false := beq_eq_false_iff_ne.2 (by omega)
          obtain ⟨hr2, hpos⟩ := HR.out.more (by rw [HTK.out]; exact HN.out) (by rw [HTK.out]; exact hk)
          rw [HST.out] at hr2 hpos
          have HR2 := Lib.hid hr2
          clear hr2
          go_wp2_with (at_builtin; go_loud (refine wpList_appT (t := 22) (T := 53) Tryd.underlying22 infoT rfl (by omega) rfl _ _ rfl w0.heap.size O (tokE (s.data.toList.drop p) p) _ _ _ _ HTV.out u4 rfl HO1.out _ rfl rfl HLN.out HG1.out.size ?_))
          intro g' cap' w6 hO6 hB6
          have HO6 := Lib.hid hO6
          have HG6 : Hid (w0.grownBy w6 none) := Lib.hid (below_gb (Below.trans2 (gb_below HG1.out) hB6))
          clear hO6 hB6 HO1
          go_wp2_with fail
          go_roundw
          case rel => exact ⟨p + (a + z), _, by omega, val_of (by omega), HR2, HO6, HG6⟩
          case measure => (simp [intOf] <;> omega)
      · have d1 : ((n : Int) == 0) = false := beq_eq_false_iff_ne.2 (by omega)
        have d2 : ((n : Int) != 0) = true := by rw [bne, d1]; rfl
        have HFA : Hid ((allE s.data.toList).2 = (n, p + a)) := Lib.hid (by
          have := HR.out.fault (by rw [HTK.out]; simp only; rw [HN.out]; exact hn0)
          rw [HTK.out] at this
          simp only at this
          rw [HN.out] at this; exact this)
        have HBX := Lib.hid (bx HG1.out HBX0.out)
        obtain ⟨c0, c1, cf⟩ := cells2 HBX.out
        go_wp2_with fail
        refine bodyPost_ret (v := .tuple #[.slice none 0 0, .agg #[.int .i64 (n : Int), .int .i64 ((p : Int) + (a : Int))]]) (by simp [results, Tryd.results18, go_sem, c0, c1]) rfl (fault_post (p := p + a) HBIG.out HFA.out hn0 ?_ rfl)
        exact below_gb (((gb_below (gb_trans HG0.out HG1.out)).setCell (by simp) _).setCell (by simp) _)
end Go.Proofs.YtdfegmdmappefaaDoor
