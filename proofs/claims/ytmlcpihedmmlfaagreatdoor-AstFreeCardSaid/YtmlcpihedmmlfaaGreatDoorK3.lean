/- strings.Builder: copyCheck and WriteString, at a builder of one's own. -/
import Derived.Lib.Builder
import Derived.Lib.AppendStr
import Derived.Lib.UnsafeStr
import Derived.Lib.Walk
import Derived.Laws.Externs
import Derived.Test.YtmlcpihedmmlfaaGreatDoorK0
import Derived.Test.YtmlcpihedmmlfaaGreatDoorK1
import Derived.Test.YtmlcpihedmmlfaaGreatDoorK2
set_option linter.unusedVariables false
set_option linter.unusedSimpArgs false
namespace Go.Proofs.YtmlcpihedmmlfaaGreatDoor
open Go.RowKit

theorem sizeB : (Tryz.prog.info? 101).map (·.size) = some 2 := by kernel_rfl
theorem liesB : liesAt Tryz.prog Tryz.prog.depth 101 (2 / Tryz.prog.cellsOf 101) 0 101 1 = true := by kernel_rfl
theorem infoU : (Tryz.prog.info? 5).map (fun i => (i.zero, i.size, i.bytes)) = some (some (.int .u8 0), 1, 1) := by kernel_rfl

set_option maxHeartbeats 1000000 in
set_option maxRecDepth 100000 in
theorem copyCheck_used (b : Nat) (w : World) (h0 : w.cell? ⟨b, 0, none⟩ = some (.pointer (some ⟨b, 0, none⟩))) :
    Calls Tryz.prog 72 #[.pointer (some ⟨b, 0, none⟩)] w fun e w' => e = .returned (.tuple #[]) ∧ w' = w := by
  obtain ⟨j, hj, _⟩ := Option.map_eq_some_iff.1 sizeB
  go_enter Tryz.func72, Tryz.ntmps72
  go_wp2
  rw [Lib.run_neq_ptr_same w _ Tryz.underlying98 hj]
  go_wp2
  go_end0
  exact ⟨rfl, rfl⟩

set_option maxHeartbeats 1000000 in
set_option maxRecDepth 100000 in
theorem copyCheck_fresh (b : Nat) (w : World) (h0 : w.cell? ⟨b, 0, none⟩ = some (.pointer none)) (hsh : w.shape? b = some (101, 2)) (hfz : w.frozen? ⟨b, 0, none⟩ = false) :
    Calls Tryz.prog 72 #[.pointer (some ⟨b, 0, none⟩)] w fun e w' => e = .returned (.tuple #[]) ∧ w' = w.setCell ⟨b, 0, none⟩ (.pointer (some ⟨b, 0, none⟩)) := by
  obtain ⟨j, hj, hjs⟩ := Option.map_eq_some_iff.1 sizeB
  go_enter Tryz.func72, Tryz.ntmps72
  go_wp2
  rw [Lib.run_to_unsafe w ⟨b, 0, none⟩ Tryz.underlying98 Tryz.underlying176 hj (by rw [hjs]; decide) hsh (Nat.zero_lt_succ 1)]
  simp only [Result.andThen]
  rw [Oper.upon_value]
  go_wp2
  rw [run_callFunc_extern Tryz.func111 (by kernel_rfl) (by kernel_rfl) (by kernel_rfl) (e := Extern.AbiNoEscape.same) (by kernel_rfl)]
  rw [Lib.run_noEscape]
  simp only [Result.andThen]
  rw [Oper.upon_value]
  go_wp2
  rw [Lib.run_from_unsafe w ⟨b, 0, none⟩ Tryz.underlying176 Tryz.underlying98 hj hsh liesB]
  simp only [Result.andThen]
  rw [Oper.upon_value]
  go_wp2
  go_end0
  exact ⟨rfl, rfl⟩

/-- Blocks of other things than bytes, but b, are as they were. -/
def OKept (b : Nat) (w w' : World) : Prop := ∀ (g : Nat) (cs : Array Value) (T : TypeId), w.heap[g]? = some (.cells cs T (0, 0)) → T ≠ 5 → g ≠ b → w'.heap[g]? = some (.cells cs T (0, 0))

theorem OKept.trans {b : Nat} {w w1 w2 : World} (h : OKept b w w1) (k : OKept b w1 w2) : OKept b w w2 := fun g cs T h1 h2 h3 => k g cs T (h g cs T h1 h2 h3) h2 h3
theorem OKept.none {b : Nat} {w w' : World} (h : w.grownBy w' Option.none) : OKept b w w' := fun g cs T h1 _ _ => bx h h1

theorem hlt' {a : World} {h : Nat} {o : Obj} (hb : a.heap[h]? = some o) : h < a.heap.size := hlt hb

theorem copyCheck_c (B b : Nat) (bs : List Value) (w : World) (h : Lib.IsBuilder 101 5 B b bs w) :
    Calls Tryz.prog 72 #[.pointer (some ⟨b, 0, none⟩)] w fun e w' => e = .returned (.tuple #[]) ∧ (Lib.BuilderAt 101 5 B b (.pointer (some ⟨b, 0, none⟩)) bs w' ∧ Below B w w') ∧ Fr2 (fun k => k = b) w w' := by
  rcases h with h | h
  · refine (copyCheck_fresh b w h.cell0 h.shape h.frozen0).mono ?_
    rintro e w' ⟨rfl, rfl⟩
    exact ⟨rfl, ⟨h.used _, (Below.refl B w).setCell (p := ⟨b, 0, none⟩) h.1 _⟩, Fr2.setCell (S := fun k => k = b) (Fr2.refl _ _) rfl _⟩
  · refine (copyCheck_used b w h.cell0).mono ?_
    rintro e w' ⟨rfl, rfl⟩
    exact ⟨rfl, ⟨h, Below.refl B _⟩, Fr2.refl _ _⟩

set_option maxHeartbeats 1000000 in
set_option maxRecDepth 100000 in
theorem WriteString_c (B b : Nat) (bs : List Value) (s : ByteArray) (w : World) (h : Lib.IsBuilder 101 5 B b bs w) (hlen : bs.length + s.size ≤ 140737488355328) (hBw : B ≤ w.heap.size) :
    Calls Tryz.prog 36 #[.pointer (some ⟨b, 0, none⟩), .string s] w fun e w' => e = .returned (.tuple #[.int .i64 s.size, .nilIface]) ∧ (Lib.BuilderAt 101 5 B b (.pointer (some ⟨b, 0, none⟩)) (bs ++ Lib.strCells s) w' ∧ Below B w w') ∧ OKept b w w' := by
  obtain ⟨i0, hi, hz0, hz1, hz2⟩ := info_parts infoU
  go_enter Tryz.func36, Tryz.ntmps36
  go_wp2_with (go_at_call 72; refine (copyCheck_c B b bs _ h).mono ?_)
  rintro e w1 ⟨rfl, ⟨h1, hb1⟩, hf1⟩
  have HF1 := Lib.hid hf1
  clear hf1
  obtain ⟨hB, v, hbk, hown, hne⟩ := h1
  have c0 : w1.cell? ⟨b, 0, none⟩ = some (.pointer (some ⟨b, 0, none⟩)) := by rw [Lib.cell_of_heap hbk]; rfl
  have c1 : w1.cell? ⟨b, 1, none⟩ = some v := by rw [Lib.cell_of_heap hbk]; rfl
  go_wp2_with (at_builtin; refine Lib.wpList_append_own_string _ rfl _ _ 99 9 rfl B 5 i0 Tryz.underlying99 Tryz.underlying9 hi hz0 hz1 hz2 _ _ _ rfl hown s rfl ?c3 ?c4 ?c5 ?_)
  case c3 => unfold maxLen; omega
  case c4 => omega
  case c5 => have := hb1.size; omega
  intro v' w2 hown' hgrow _
  have hlt : b < w1.heap.size := by
    rcases Nat.lt_or_ge b w1.heap.size with h' | h'
    · exact h'
    · simp [Array.getElem?_eq_none h'] at hbk
  have hb2 : w2.heap[b]? = some (.cells #[.pointer (some ⟨b, 0, none⟩), v] 101 (0, 0)) := by
    rw [hgrow.block b hlt (fun e => hne e.symm)]
    exact hbk
  have d0 : w2.cell? ⟨b, 0, none⟩ = some (.pointer (some ⟨b, 0, none⟩)) := by rw [Lib.cell_of_heap hb2]; rfl
  have d1 : w2.cell? ⟨b, 1, none⟩ = some v := by rw [Lib.cell_of_heap hb2]; rfl
  have f1 : w2.frozen? ⟨b, 1, none⟩ = false := Lib.frozen_of_heap hb2 1
  obtain ⟨ao, n', cap, rfl⟩ : ∃ ao n' cap, v' = .slice ao n' cap := by
    rcases hown'.2 with ⟨hv, _⟩ | ⟨g, cap, cur, hv, _⟩
    · exact ⟨_, _, _, hv⟩
    · exact ⟨_, _, _, hv⟩
  go_wp2
  go_ret2
  refine ⟨rfl, ⟨?_, ?_⟩, ?_⟩
  · exact Lib.BuilderAt.put (T := 101) (e := 5) hB hb2 (bs' := bs ++ Lib.strCells s) (by simpa [Lib.strCells_length] using hown') (by decide)
  · exact (hb1.grown hgrow (by have := hb1.size; omega) (fun k hk => (hown.lt k hk).1)).setCell (p := ⟨b, 1, none⟩) hB _
  · intro g cs T h1 h2 h3
    have h4 := HF1.out.keep h1 h3
    have h5 := Lib.ownBlock_ne hown h4 h2
    have h6 : w2.heap[g]? = _ := (hgrow.block g (hlt' h4) (fun e => h5 e.symm)).trans h4
    rw [Below.heap_setCell _ _ _ _ (by simpa using h3)]
    exact h6

/-! ### A builder among others -/

theorem bld_kept {B b : Nat} {bs : List Value} {w w' : World} (h : Lib.IsBuilder 101 5 B b bs w) (hg : w.grownBy w' none) : Lib.IsBuilder 101 5 B b bs w' := by
  have one : ∀ p, Lib.BuilderAt 101 5 B b p bs w → Lib.BuilderAt 101 5 B b p bs w' := by
    intro p ⟨hB, v, hb, hown, hne⟩
    exact ⟨hB, v, bx hg hb, World.ownsRow.kept hown hg (by cases hv : v.ownBlock with | none => exact .inl rfl | some k => exact .inr (by simp)), hne⟩
  exact h.imp (one _) (one _)

/-- A builder where a block of other things alone has turned. -/
theorem bld_keptS {B b g : Nat} {bs : List Value} {w w' : World} {cs : Array Value} {T : TypeId} (h : Lib.IsBuilder 101 5 B b bs w) (hg : w.grownBy w' (some g)) (hgb : w.heap[g]? = some (.cells cs T (0, 0))) (hT : T ≠ 5) (hne : g ≠ b) : Lib.IsBuilder 101 5 B b bs w' := by
  have one : ∀ p, Lib.BuilderAt 101 5 B b p bs w → Lib.BuilderAt 101 5 B b p bs w' := by
    intro p ⟨hB, v, hb, hown, hn⟩
    have h5 := Lib.ownBlock_ne hown hgb hT
    exact ⟨hB, v, (hg.block b (hlt hb) (by simpa using hne.symm)).trans hb, World.ownsRow.kept hown hg (by cases hv : v.ownBlock with | none => exact .inl rfl | some k => exact .inr (fun e => h5 (hv.trans e))), hn⟩
  exact h.imp (one _) (one _)

theorem bld_new (w : World) (B : Nat) (hB : B ≤ w.heap.size) : Lib.IsBuilder 101 5 B w.heap.size [] (w.alloc (.cells #[.pointer none, .slice none 0 0] 101)) :=
  .inl ⟨hB, .slice none 0 0, heap_alloc_new w _, World.ownsRow_nil _ _ _ _, by simp [Value.ownBlock]⟩

end Go.Proofs.YtmlcpihedmmlfaaGreatDoor
namespace Go.Proofs.YtmlcpihedmmlfaaGreatDoor
open Go.RowKit

def ValPost (v : Value) (w : World) (e : Ending) (w' : World) : Prop := e = .returned v ∧ w.grownBy w' none

set_option maxRecDepth 100000 in
theorem Clone_c (s : ByteArray) (w : World) (hlim : s.size ≤ 281474976710656) : Calls Tryz.prog 41 #[.string s] w (ValPost (.string s) w) := by
  have H := Lib.hid (Tryz.stringslite_Clone s w hlim)
  go_enter Tryz.func41, Tryz.ntmps41
  go_wp2_with fail
  refine H.out.mono ?_
  rintro e w1 ⟨rfl, hb⟩
  have HB := Lib.hid hb
  clear hb
  go_wp2_with fail
  go_ret
  exact ⟨rfl, below_gb HB.out⟩

/-- What Lex answers. -/
def LexPost (l : List UInt8) (w : World) (e : Ending) (w' : World) : Prop :=
  w.grownBy w' none ∧ if 65536 < l.length then e = .returned (.tuple #[.slice none 0 0, .agg #[.int .i64 11, .int .i64 0]])
    else if (allE l).2.1 ≠ 0 then e = .returned (.tuple #[.slice none 0 0, .agg #[.int .i64 ((allE l).2.1 : Nat), .int .i64 ((allE l).2.2 : Nat)]])
    else ∃ q c, e = .returned (.tuple #[.slice q (allE l).1.length c, .agg #[.int .i64 0, .int .i64 0]]) ∧ TAt w' q (allE l).1 ∧ (allE l).1.length ≤ c ∧ c ≤ maxLen

theorem tok_parts (s : ByteArray) {p : Nat} (hp : p ≤ s.size) : ∃ a k z, sk false (s.data.toList.drop p) = a ∧ firstE (s.data.toList.drop (p + a)) = (k, z) ∧ k ≤ 5 ∧ p + a + z ≤ s.size ∧ stepE (s.data.toList.drop p) = a + z ∧
    tokE (s.data.toList.drop p) p = ⟨k, (s.extract p (p + a)).data.toList, (s.extract (p + a) (p + a + z)).data.toList, p + a⟩ := by
  obtain ⟨a, ha⟩ : ∃ a, sk false (s.data.toList.drop p) = a := ⟨_, rfl⟩
  obtain ⟨k, z, hkz⟩ : ∃ k z, firstE (s.data.toList.drop (p + a)) = (k, z) := ⟨_, _, rfl⟩
  have h1 := sk_le (s.data.toList.drop p) false
  have h2 := firstE_le (s.data.toList.drop (p + a))
  have h3 := (firstE_kind (s.data.toList.drop (p + a))).1
  rw [ha, List.length_drop, list_len] at h1
  rw [hkz] at h2 h3
  rw [List.length_drop, list_len] at h2
  simp only at h2 h3
  refine ⟨a, k, z, ha, hkz, h3, by omega, ?_, ?_⟩
  · unfold stepE; rw [ha, List.drop_drop, hkz]
  · unfold tokE; rw [ha, List.drop_drop, hkz, ext_take, ext_take]

theorem big_post {s : ByteArray} {w w' : World} {e : Ending} (hs : 65536 < s.size) (hg : w.grownBy w' none) (he : e = .returned (.tuple #[.slice none 0 0, .agg #[.int .i64 11, .int .i64 0]])) : LexPost s.data.toList w e w' := by
  refine ⟨hg, ?_⟩
  rw [list_len, if_pos hs]; exact he
theorem fault_post {s : ByteArray} {w w' : World} {e : Ending} {n p : Nat} (hs : ¬ 65536 < s.size) (hf : (allE s.data.toList).2 = (n, p)) (hn : n ≠ 0) (hg : w.grownBy w' none) (he : e = .returned (.tuple #[.slice none 0 0, .agg #[.int .i64 (n : Int), .int .i64 (p : Int)]])) : LexPost s.data.toList w e w' := by
  refine ⟨hg, ?_⟩
  rw [list_len, if_neg hs, hf, if_pos hn]; exact he
theorem done_post {s : ByteArray} {w w' : World} {e : Ending} {O : List Tok} {q : Option Addr} {c : Nat} (hs : ¬ 65536 < s.size) (hf : allE s.data.toList = (O, 0, 0)) (hg : w.grownBy w' none) (he : e = .returned (.tuple #[.slice q O.length c, .agg #[.int .i64 0, .int .i64 0]])) (ht : TAt w' q O) (h1 : O.length ≤ c) (h2 : c ≤ maxLen) : LexPost s.data.toList w e w' := by
  refine ⟨hg, ?_⟩
  rw [list_len, if_neg hs, hf, if_neg (by simp)]; exact ⟨q, c, he, ht, h1, h2⟩

set_option maxRecDepth 100000 in
set_option maxHeartbeats 8000000 in
theorem Lex_c (s : ByteArray) (w : World) (hs : s.size ≤ 1000000) (hla : LaidE w) : Calls Tryz.prog 57 #[.string s] w (LexPost s.data.toList w) := by
  by_cases hbig : 65536 < s.size
  · have d1 : decide ((65536 : Int) < (s.size : Int)) = true := decide_eq_true (by omega)
    have d1' : decide (65536 < s.size) = true := decide_eq_true hbig
    go_enter Tryz.func57, Tryz.ntmps57
    go_wp2_with fail
    refine bodyPost_ret (v := .tuple #[.slice none 0 0, .agg #[.int .i64 11, .int .i64 0]]) (by simp [results, Tryz.results57, go_sem]) rfl (big_post hbig (World.grownBy_alloc w _ _) rfl)
  · have d1 : decide ((65536 : Int) < (s.size : Int)) = false := decide_eq_false (by omega)
    have d1' : decide (65536 < s.size) = false := decide_eq_false hbig
    have HBIG := Lib.hid hbig
    have HLA := Lib.hid hla
    have HB0 := Lib.hid (heap_alloc_new w (.cells #[.int .i64 0, .int .i64 0] 29))
    have HGA := Lib.hid (World.grownBy_alloc w (.cells #[.int .i64 0, .int .i64 0] 29) none)
    clear hla
    go_enter Tryz.func57, Tryz.ntmps57
    go_wp2_with fail
    refine (Clone_c s _ (by omega)).mono ?_
    rintro e w0 ⟨rfl, hg0⟩
    have HG0 := Lib.hid (gb_trans HGA.out hg0)
    have HBX0 := Lib.hid (bx hg0 HB0.out)
    have HSZ0 : Hid (w.heap.size < w0.heap.size) := Lib.hid (by have := hg0.size; simp at this; omega)
    clear hg0 d1 d1' HB0 HGA
    go_wp2_with fail
    go_loopw [4, 5] (fun ov pv wr => ∃ (p : Nat) (O : List Tok), p ≤ s.size ∧ pv = .int .i64 p ∧ Hid (RestE s.data.toList O p) ∧ Hid (OwnT 96 wr w0.heap.size ov O) ∧ Hid (w0.grownBy wr none)) (fun _ pv _ => s.size - (intOf pv).toNat)
    case atStart => exact ⟨0, [], Nat.zero_le _, rfl, Lib.hid (RestE.start _), Lib.hid (OwnT.nil _ _ _), gb_refl _ _⟩
    case round =>
      obtain ⟨p, O, hp, rfl, HR, HO, HG⟩ := hrel
      obtain ⟨a, k, z, ha, hkz, hk5, hpz, hst, htk⟩ := tok_parts s hp
      have HLS := leadSize_c (s.extract p s.size) wr (by rw [ByteArray.size_extract]; omega)
      rw [ext_end s p _ rfl, ha] at HLS
      have HLE := Lib.hid HLS
      have HF := fun W (h : LaidE W) => first_c (s.extract (p + a) s.size) W (by rw [ByteArray.size_extract]; omega) h
      rw [ext_end s (p + a) _ rfl, hkz] at HF
      simp only at HF
      have HFI := Lib.hid HF
      have HW := Lib.hid (fun W => wrong_c k hk5 (s.extract (p + a) (p + a + z)) W (by rw [ByteArray.size_extract]; omega))
      obtain ⟨n, hn⟩ : ∃ n, wrongE k (s.extract (p + a) (p + a + z)).data.toList = n := ⟨_, rfl⟩
      rw [hn] at HW
      have HTK := Lib.hid htk; have HN := Lib.hid hn; have HST := Lib.hid hst
      have hw1 : IntKind.i64.wrap ((p : Int) + (a : Int)) = (p : Int) + (a : Int) := IntWalk.i64_in _ (by omega)
      have hw2 : IntKind.i64.wrap ((p : Int) + (a : Int) + (z : Int)) = (p : Int) + (a : Int) + (z : Int) := IntWalk.i64_in _ (by omega)
      clear ha hkz hst htk hn HLS HF
      go_wp2_with fail
      refine HLE.out.mono ?_
      rintro e w1 ⟨rfl, hg1⟩
      have HG1 := Lib.hid (gb_trans HG.out hg1)
      have HO1 := Lib.hid (HO.out.kept hg1)
      clear hg1
      go_wp2_with fail
      refine (HFI.out w1 (HLA.out.kept (gb_trans HG0.out HG1.out))).mono ?_
      rintro e w2 ⟨rfl, rfl⟩
      go_wp2_with fail
      refine (HW.out w1).mono ?_
      rintro e w2 ⟨rfl, rfl⟩
      clear HLE HFI HW HG HO
      by_cases hn0 : n = 0
      · subst hn0
        have HLN : Hid (O.length ≤ 1000000) := Lib.hid (by have := HR.out.2.1; omega)
        have HTV : Hid (tokV (tokE (s.data.toList.drop p) p) = [.int .i64 (k : Int), .string (s.extract p (p + a)), .string (s.extract (p + a) (p + a + z)), .int .i64 ((p : Int) + (a : Int))]) := Lib.hid (by rw [HTK.out]; rfl)
        by_cases hk : k = 5
        · subst hk
          have HAL : Hid (allE s.data.toList = (O ++ [tokE (s.data.toList.drop p) p], 0, 0)) := Lib.hid (HR.out.done (by rw [HTK.out]; exact HN.out) (by rw [HTK.out]))
          go_wp2_with (at_builtin; go_loud (refine wpList_appT (t := 23) (T := 96) Tryz.underlying23 infoT rfl (by omega) rfl _ _ rfl w0.heap.size O (tokE (s.data.toList.drop p) p) _ _ _ _ HTV.out u4 rfl HO1.out _ rfl rfl HLN.out HG1.out.size ?_))
          intro g' cap' w6 hO6 hB6
          have HO6 := Lib.hid hO6
          have HG6 : Hid (w0.grownBy w6 none) := Lib.hid (below_gb (Below.trans2 (gb_below HG1.out) hB6))
          clear hO6 hB6 HO1
          obtain ⟨q, c, hq, hqt, hc1, hc2, hqb⟩ := HO6.out.is
          injection hq with hq1 hq2 hq3
          subst hq1; subst hq3
          rw [List.length_append, List.length_singleton] at hc1
          have HQT := Lib.hid hqt; have HC := Lib.hid hc1; have HC2 := Lib.hid hc2; have HQB := Lib.hid hqb
          have HLL : Hid ((O ++ [tokE (s.data.toList.drop p) p]).length = O.length + 1) := Lib.hid (by simp)
          have HBX := Lib.hid (bx HG6.out HBX0.out)
          obtain ⟨c0, c1, cf⟩ := cells2 HBX.out
          clear hqt hc1 hc2 hqb hq2
          go_wp2_with fail
          have hlt6 : w.heap.size < w6.heap.size := by have := HSZ0.out; have := HG6.out.size; omega
          have hne : ∀ a, some (⟨g', 0, none⟩ : Addr) = some a → w.heap.size < a.block := fun a ha => by
            have := HQB.out (by simp) a ha; have := HSZ0.out; omega
          refine bodyPost_ret (v := .tuple #[.slice (some ⟨g', 0, none⟩) (O.length + 1) cap', .agg #[.int .i64 0, .int .i64 0]]) (by simp [results, Tryz.results57, go_sem, c0, c1]) rfl ?_
          rw [← HLL.out]
          refine done_post HBIG.out HAL.out ?_ rfl ?_ ?_ HC2.out
          · exact below_gb (((gb_below (gb_trans HG0.out HG6.out)).setCell (by simp) _).setCell (by simp) _)
          · exact (HQT.out.setBox (fun _ => hne) _ _).setBox (fun _ => hne) _ _
          · rw [HLL.out]; exact HC.out
        · have d5 : ((k : Int) == 5) = false := beq_eq_false_iff_ne.2 (by omega)
          obtain ⟨hr2, hpos⟩ := HR.out.more (by rw [HTK.out]; exact HN.out) (by rw [HTK.out]; exact hk)
          rw [HST.out] at hr2 hpos
          have HR2 := Lib.hid hr2
          clear hr2
          go_wp2_with (at_builtin; go_loud (refine wpList_appT (t := 23) (T := 96) Tryz.underlying23 infoT rfl (by omega) rfl _ _ rfl w0.heap.size O (tokE (s.data.toList.drop p) p) _ _ _ _ HTV.out u4 rfl HO1.out _ rfl rfl HLN.out HG1.out.size ?_))
          intro g' cap' w6 hO6 hB6
          have HO6 := Lib.hid hO6
          have HG6 : Hid (w0.grownBy w6 none) := Lib.hid (below_gb (Below.trans2 (gb_below HG1.out) hB6))
          clear hO6 hB6 HO1
          go_wp2_with fail
          go_roundw
          case rel => exact ⟨p + (a + z), _, by omega, val_of (by omega), HR2, HO6, HG6⟩
          case measure => (simp [intOf] <;> omega)
      · have d1 : ((n : Int) == 0) = false := beq_eq_false_iff_ne.2 (by omega)
        have d2 : ((n : Int) != 0) = true := by rw [bne, d1]; rfl
        have HFA : Hid ((allE s.data.toList).2 = (n, p + a)) := Lib.hid (by
          have := HR.out.fault (by rw [HTK.out]; simp only; rw [HN.out]; exact hn0)
          rw [HTK.out] at this
          simp only at this
          rw [HN.out] at this; exact this)
        have HBX := Lib.hid (bx HG1.out HBX0.out)
        obtain ⟨c0, c1, cf⟩ := cells2 HBX.out
        go_wp2_with fail
        refine bodyPost_ret (v := .tuple #[.slice none 0 0, .agg #[.int .i64 (n : Int), .int .i64 ((p : Int) + (a : Int))]]) (by simp [results, Tryz.results57, go_sem, c0, c1]) rfl (fault_post (p := p + a) HBIG.out HFA.out hn0 ?_ rfl)
        exact below_gb (((gb_below (gb_trans HG0.out HG1.out)).setCell (by simp) _).setCell (by simp) _)
end Go.Proofs.YtmlcpihedmmlfaaGreatDoor
namespace Go.Proofs.YtmlcpihedmmlfaaGreatDoor
open Go.RowKit

def wholeL (l : List Tok) : List UInt8 := l.flatMap fun t => t.lead ++ t.text

theorem wholeL_append (l r : List Tok) : wholeL (l ++ r) = wholeL l ++ wholeL r := by unfold wholeL; rw [List.flatMap_append]
theorem wholeL_next {l : List Tok} {k : Nat} {t : Tok} (h : l[k]? = some t) : wholeL (l.take (k + 1)) = wholeL (l.take k) ++ t.lead ++ t.text := by
  rw [List.take_add_one, h, wholeL_append]; simp [wholeL]
theorem wholeL_take (l : List Tok) (k : Nat) : (wholeL (l.take k)).length ≤ (wholeL l).length := by
  have h1 : wholeL l = wholeL (l.take k) ++ wholeL (l.drop k) := by rw [← wholeL_append, List.take_append_drop]
  rw [h1, List.length_append]; omega

theorem strCells_mk (x : List UInt8) : Lib.strCells ⟨x.toArray⟩ = Lib.byteCells x := rfl

end Go.Proofs.YtmlcpihedmmlfaaGreatDoor
namespace Go.Proofs.YtmlcpihedmmlfaaGreatDoor

theorem tok_whole (l : List UInt8) (p : Nat) : (tokE l p).lead ++ (tokE l p).text = l.take (stepE l) := by
  unfold tokE stepE; rw [List.take_add]

theorem wholeL_cons (t : Tok) (l : List Tok) : wholeL (t :: l) = t.lead ++ t.text ++ wholeL l := rfl

theorem end_whole {l : List UInt8} {p : Nat} (h5 : (tokE l p).kind = 5) : stepE l = l.length ∧ (tokE l p).text = [] := by
  have h1 := ((firstE_kind (l.drop (sk false l))).2).1 h5
  have h2 : l.length ≤ sk false l := by
    have := congrArg List.length h1; rw [List.length_drop, List.length_nil] at this; omega
  have h3 := sk_le l false
  constructor
  · unfold stepE; rw [h1]; simp [firstE]; omega
  · unfold tokE; rw [h1]; rfl

theorem text_pos {l : List UInt8} {p : Nat} (h : wrongE (tokE l p).kind (tokE l p).text = 0) (h5 : (tokE l p).kind ≠ 5) : (tokE l p).text ≠ [] := by
  have h0 : (firstE (l.drop (sk false l))).1 ≠ 0 := fun e => by
    unfold wrongE at h
    rw [if_pos (.inl e)] at h; cases h
  have h1 := firstE_pos h5 h0
  have h2 := firstE_le (l.drop (sk false l))
  intro e
  have h3 : ((l.drop (sk false l)).take (firstE (l.drop (sk false l))).2).length = ([] : List UInt8).length := congrArg List.length e
  rw [List.length_take, List.length_nil, Nat.min_eq_left h2] at h3
  omega

theorem whole_lexG : ∀ (f : Nat) (l : List UInt8) (p : Nat), l.length < f → (lexG f l p).2.1 = 0 → wholeL (lexG f l p).1 = l
  | 0, l, p, h, _ => by omega
  | f + 1, l, p, h, h0 => by
    by_cases hw : wrongE (tokE l p).kind (tokE l p).text = 0
    · by_cases h5 : (tokE l p).kind = 5
      · rw [lexG_end hw h5, wholeL_cons, tok_whole, (end_whole h5).1, List.take_length]; simp [wholeL]
      · rw [lexG_more hw h5] at h0 ⊢
        have h1 := stepE_pos hw h5
        have h2 := stepE_le l
        rw [wholeL_cons, tok_whole, whole_lexG f (l.drop (stepE l)) _ (by rw [List.length_drop]; omega) h0, List.take_append_drop]
    · rw [lexG_fault hw] at h0
      exact absurd h0 hw

theorem whole_all {l : List UInt8} (h : (allE l).2.1 = 0) : wholeL (allE l).1 = l := whole_lexG _ l 0 (by omega) h

/-- Each token stands at its place; the end alone is empty, and the last one. -/
def PlaceE (p : Nat) (L : List Tok) : Prop := ∀ i t, L[i]? = some t → t.pos = p + (wholeL (L.take i)).length + t.lead.length ∧ (t.kind = 5 ↔ i + 1 = L.length) ∧ (t.text = [] ↔ t.kind = 5)

theorem place_lexG : ∀ (f : Nat) (l : List UInt8) (p : Nat), l.length < f → (lexG f l p).2.1 = 0 → PlaceE p (lexG f l p).1 ∧ (lexG f l p).1 ≠ []
  | 0, l, p, h, _ => by omega
  | f + 1, l, p, h, h0 => by
    by_cases hw : wrongE (tokE l p).kind (tokE l p).text = 0
    · have hlead : (tokE l p).lead.length = sk false l := by
        unfold tokE; simp only [List.length_take]; have := sk_le l false; omega
      by_cases h5 : (tokE l p).kind = 5
      · rw [lexG_end hw h5]
        refine ⟨fun i t hi => ?_, by simp⟩
        match i, hi with
        | 0, hi =>
          simp at hi; subst hi
          refine ⟨?_, by simp [h5], by simp [h5, (end_whole h5).2]⟩
          rw [hlead]; simp [wholeL]; rfl
      · rw [lexG_more hw h5] at h0 ⊢
        have h1 := stepE_pos hw h5
        have h2 := stepE_le l
        obtain ⟨ih, hne⟩ := place_lexG f (l.drop (stepE l)) (p + stepE l) (by rw [List.length_drop]; omega) h0
        refine ⟨fun i t hi => ?_, by simp⟩
        match i, hi with
        | 0, hi =>
          simp at hi; subst hi
          have ht := text_pos hw h5
          refine ⟨?_, ?_, by simp [h5, ht]⟩
          · rw [hlead]; simp [wholeL]; rfl
          · simp [h5]
            intro e; exact hne e
        | i + 1, hi =>
          obtain ⟨a1, a2, a3⟩ := ih i t (by simpa using hi)
          refine ⟨?_, by rw [a2]; simp, a3⟩
          rw [a1, List.take_succ_cons, wholeL_cons, tok_whole, List.length_append, List.length_take, Nat.min_eq_left h2]
          omega
    · rw [lexG_fault hw] at h0
      exact absurd h0 hw

theorem place_all {l : List UInt8} (h : (allE l).2.1 = 0) : PlaceE 0 (allE l).1 ∧ (allE l).1 ≠ [] := place_lexG _ l 0 (by omega) h
theorem len_all {l : List UInt8} (h : (allE l).2.1 = 0) : (allE l).1.length ≤ l.length + 1 := by
  have h1 := (place_all h).1
  have h2 : ∀ (L : List Tok), (∀ i t, L[i]? = some t → (t.text = [] ↔ i + 1 = L.length)) → L.length ≤ (wholeL L).length + 1 := by
    intro L hL
    have key : ∀ (L : List Tok), (∀ t ∈ L, t.text ≠ []) → L.length ≤ (wholeL L).length := by
      intro L
      induction L with
      | nil => intro _; exact Nat.le_refl _
      | cons t L ih =>
        intro hh
        have a := ih (fun t ht => hh t (List.mem_cons_of_mem _ ht))
        have b := List.length_pos_iff.2 (hh t (List.mem_cons_self ..))
        rw [wholeL_cons]; simp only [List.length_cons, List.length_append]; omega
    have h3 := key (L.take (L.length - 1)) (fun t ht => by
      obtain ⟨i, hi⟩ := List.getElem?_of_mem ht
      rw [List.getElem?_take] at hi
      split at hi
      · rename_i hlt
        intro e
        have := (hL i t hi).1 e
        omega
      · cases hi)
    have h4 := wholeL_take L (L.length - 1)
    rw [List.length_take] at h3
    omega
  have h5 := h2 (allE l).1 (fun i t hi => by obtain ⟨_, a, b⟩ := h1 i t hi; rw [b, a])
  rw [whole_all h] at h5; exact h5
end Go.Proofs.YtmlcpihedmmlfaaGreatDoor
namespace Go.Proofs.YtmlcpihedmmlfaaGreatDoor
open Go.RowKit

def Self (b : Nat) : Nat → Prop := fun k => k = b
def EndT (T : List Tok) : Prop := ∀ (i : Nat) (t : Tok), T[i]? = some t → (t.kind = 5 ↔ i + 1 = T.length)

theorem mine (b : Nat) : Self b b := rfl
theorem fr2_drew {X : Nat → Prop} {a b : World} (h : Fr2 X a b) : Fr2 X a b.drew := ⟨h.os, h.tape, h.output, h.size, h.block⟩

section
variable {T : List Tok}
theorem mul_kind {s : St} (h : isMul T s = true) : (tokQ T s).kind ≠ 5 := by
  unfold isMul at h
  simp only [Bool.or_eq_true] at h
  rcases h with (h | h) | h <;> exact (is_kind h).1
theorem add_kind {s : St} (h : isAdd T s = true) : (tokQ T s).kind ≠ 5 := by
  unfold isAdd at h
  simp only [Bool.or_eq_true] at h
  rcases h with h | h <;> exact (is_kind h).1
theorem cmp_kind {s : St} (h : isCmp T s = true) : (tokQ T s).kind ≠ 5 := by
  unfold isCmp at h
  simp only [Bool.or_eq_true] at h
  rcases h with ((((h | h) | h) | h) | h) | h <;> exact (is_kind h).1
end
theorem fail_e (T : List Tok) {m : Nat} (hm : m ≠ 0) (s : St) : (failQ T m s).e ≠ 0 := by
  unfold failQ; split
  · exact hm
  · assumption

def setIn (v : Bool) (s : St) : St := { s with inn := v }
section
variable (T : List Tok) (ex : St → RQ)
def typB (a : RQ) : RQ :=
  if isQ T [105, 110, 116] a.2 = true ∨ isQ T [98, 111, 111, 108] a.2 = true then (a.1 ++ ([32, 40, 53] ++ (leafQ T a.2).1 ++ [41]), (leafQ T a.2).2)
  else (a.1, failQ T 22 a.2)
def typC (b : RQ) : RQ :=
  if isQ T [123] b.2 = true then
    let f := ex (setIn true (leafQ T b.2).2)
    let m := mustQ T [125] (setIn false f.2)
    (b.1 ++ ([32, 40, 54] ++ (leafQ T b.2).1 ++ f.1 ++ m.1 ++ [41]), m.2)
  else b
def typedQ (s : St) : RQ := typC T ex (typB T (mustQ T [58] s))
def parQ (s : St) : RQ :=
  let k := kindQ T 1 s
  let t := typedQ T ex k.2
  ([32, 40, 52] ++ k.1 ++ t.1 ++ [41], t.2)
def paramsQ (s : St) : RQ := partsQ T (parQ T ex) (fuelQ T (parQ T ex s).2) 1 (parQ T ex s)
def defA (s : St) : RQ := if isQ T [112, 117, 98] s = true then ([32, 40, 51] ++ (leafQ T s).1, (leafQ T s).2) else ([32, 40, 51], s)
def defB (p : RQ) : RQ :=
  let u := mustQ T [102, 117, 110] p.2
  let k := kindQ T 1 u.2
  let o := mustQ T [40] k.2
  (p.1 ++ (u.1 ++ k.1 ++ o.1), o.2)
def defC (o : RQ) : RQ := if o.2.e = 0 ∧ isQ T [41] o.2 = false then (o.1 ++ (paramsQ T ex o.2).1, (paramsQ T ex o.2).2) else o
def defD (r : RQ) : RQ :=
  let c := mustQ T [41] r.2
  let t := typedQ T ex c.2
  let q := mustQ T [61] t.2
  let x := ex q.2
  let m := mustQ T [59] x.2
  (r.1 ++ (c.1 ++ t.1 ++ q.1) ++ x.1 ++ m.1 ++ [41], m.2)
def defQ (s : St) : RQ := defD T ex (defC T ex (defB T (defA T s)))
def impStep (r : RQ) : RQ :=
  let l := leafQ T r.2
  let k := kindQ T 1 l.2
  let m := mustQ T [59] k.2
  (r.1 ++ ([32, 40, 50] ++ l.1 ++ k.1 ++ m.1 ++ [41]), m.2)
/-- Imports, or definitions: none where there are too many. -/
def manyQ (c : St → Bool) (step : RQ → RQ) (most : Nat) : Nat → Nat → RQ → Bool × RQ
  | 0, _, r => (true, r)
  | f + 1, k, r => if c r.2 = true then (if k = most then (false, ([], failQ T 15 r.2)) else manyQ c step most f (k + 1) (step r)) else (true, r)
def isDef (s : St) : Bool := isQ T [112, 117, 98] s || isQ T [102, 117, 110] s
def importsQ (r : RQ) : Bool × RQ := manyQ T (isQ T [105, 109, 112, 111, 114, 116]) (impStep T) 16 (fuelQ T r.2) 0 r
def defStep (r : RQ) : RQ := (r.1 ++ (defQ T ex r.2).1, (defQ T ex r.2).2)
def defsQ (r : RQ) : Bool × RQ := manyQ T (isDef T) (defStep T ex) 64 (fuelQ T r.2) 0 r
def endQ (r : RQ) : RQ := (r.1 ++ (kindQ T 5 r.2).1 ++ [41], (kindQ T 5 r.2).2)
def programQ (s : St) : RQ :=
  if (importsQ T ([40, 49], s)).1 = false then (importsQ T ([40, 49], s)).2
  else if (defsQ T ex (importsQ T ([40, 49], s)).2).1 = false then (defsQ T ex (importsQ T ([40, 49], s)).2).2
  else endQ T (defsQ T ex (importsQ T ([40, 49], s)).2).2
def aloneQ (s : St) : RQ :=
  let x := ex (setIn true s)
  let k := kindQ T 5 x.2
  ([40, 49, 56] ++ x.1 ++ k.1 ++ [41], k.2)
end

theorem end_all {l : List UInt8} (h : (allE l).2.1 = 0) : EndT (allE l).1 ∧ (allE l).1 ≠ [] := ⟨fun i t ht => ((place_all h).1 i t ht).2.1, (place_all h).2⟩

def startQ : St := ⟨0, false, 0, 0⟩
def resQ (r : RQ) : List UInt8 × Nat × Nat := if r.2.e = 0 then (r.1, 0, 0) else ([], r.2.e, r.2.pos)
def treeQ (T : List Tok) (D : Nat) (f : Bool) : RQ := if f = true then aloneQ T (nxQ T D D).expr startQ else programQ T (nxQ T D D).expr startQ
/-- What the reference answers. -/
def parseQ (l : List UInt8) (D : Nat) (f : Bool) : List UInt8 × Nat × Nat :=
  if 65536 < l.length then ([], 11, 0)
  else if (allE l).2.1 ≠ 0 then ([], (allE l).2.1, (allE l).2.2)
  else resQ (treeQ (allE l).1 D f)
end Go.Proofs.YtmlcpihedmmlfaaGreatDoor
namespace Go.Proofs.YtmlcpihedmmlfaaGreatDoor

inductive Tr where
  | lf (i : Nat)
  | nd (k : Nat) (l : List Tr)
abbrev RT := List Tr × St

def digT (k : Nat) : List UInt8 := if k < 10 then [UInt8.ofNat (48 + k)] else [UInt8.ofNat (48 + k / 10), UInt8.ofNat (48 + k % 10)]
def tokT (T : List Tok) (i : Nat) : List UInt8 := if (T[i]?.getD ⟨5, [], [], 0⟩).kind = 5 then [36] else (T[i]?.getD ⟨5, [], [], 0⟩).text
mutual
/-- A tree's text. -/
def dmp (T : List Tok) : Tr → List UInt8
  | .lf i => tokT T i
  | .nd k l => 40 :: digT k ++ dmps T l ++ [41]
def dmps (T : List Tok) : List Tr → List UInt8
  | [] => []
  | t :: l => 32 :: dmp T t ++ dmps T l
end
theorem dmps_append (T : List Tok) (a b : List Tr) : dmps T (a ++ b) = dmps T a ++ dmps T b := by
  induction a with
  | nil => simp [dmps]
  | cons t a ih => simp [dmps, ih]
theorem dmps_node (T : List Tok) (k : Nat) (l : List Tr) : dmps T [.nd k l] = [32, 40] ++ digT k ++ dmps T l ++ [41] := by simp [dmps, dmp]
theorem dmps_nil (T : List Tok) : dmps T [] = [] := by simp [dmps]

def im (T : List Tok) (a : RT) : RQ := (dmps T a.1, a.2)
theorem im_fst (T : List Tok) (a : RT) : (im T a).1 = dmps T a.1 := rfl
theorem im_snd (T : List Tok) (a : RT) : (im T a).2 = a.2 := rfl
theorem im_ite (T : List Tok) (p : Prop) [Decidable p] (a b : RT) : im T (if p then a else b) = if p then im T a else im T b := by split <;> rfl

section
variable (T : List Tok)
def leafT (s : St) : RT := ([.lf s.i], (leafQ T s).2)
def mustT (w : List UInt8) (s : St) : RT := if isQ T w s = true then leafT T s else ([], failQ T 22 s)
def kindT (k : Nat) (s : St) : RT := if s.e = 0 ∧ (tokQ T s).kind = k then leafT T s else ([], failQ T 22 s)
theorem leaf_m (s : St) : leafQ T s = im T (leafT T s) := by
  have h : (leafQ T s).1 = dmps T [.lf s.i] := by
    unfold leafQ
    simp only [dmps, dmp, tokT, tokQ]
    split <;> rename_i hk <;> simp [hk]
  exact Prod.ext h rfl
theorem must_m (w : List UInt8) (s : St) : mustQ T w s = im T (mustT T w s) := by
  unfold mustQ mustT
  rw [im_ite, leaf_m]; simp [im, dmps]
theorem kind_m (k : Nat) (s : St) : kindQ T k s = im T (kindT T k s) := by
  unfold kindQ kindT
  rw [im_ite, leaf_m]; simp [im, dmps]

def rwT (c : St → Bool) (sub : St → RT) : Nat → RT → RT
  | 0, r => r
  | f + 1, r => if c r.2 = true then rwT c sub f ([.nd 10 (r.1 ++ (leafT T r.2).1 ++ (sub (leafT T r.2).2).1)], (sub (leafT T r.2).2).2) else r
theorem row_m {c : St → Bool} {sub : St → RQ} {subT : St → RT} (h : ∀ s, sub s = im T (subT s)) : ∀ f r, rowQ T c sub f (im T r) = im T (rwT T c subT f r)
  | 0, r => rfl
  | f + 1, r => by
    unfold rowQ rwT
    rw [im_ite, im_snd, ← row_m h f, leaf_m, h]
    simp only [im, dmps_node, dmps_append]
    rfl
def partsT (sub : St → RT) : Nat → Nat → RT → RT
  | 0, _, r => r
  | f + 1, k, r => if isQ T [44] r.2 = true then
      let l := leafT T r.2
      let s := if k = 8 then failQ T 15 l.2 else l.2
      partsT sub f (k + 1) (r.1 ++ l.1 ++ (sub s).1, (sub s).2)
    else r
theorem parts_m {sub : St → RQ} {subT : St → RT} (h : ∀ s, sub s = im T (subT s)) : ∀ f k r, partsQ T sub f k (im T r) = im T (partsT T subT f k r)
  | 0, k, r => rfl
  | f + 1, k, r => by
    unfold partsQ partsT
    simp only []
    rw [im_ite, im_snd, ← parts_m h f, leaf_m]
    simp only [im_snd, h, im_fst]
    simp only [im, dmps_append]

structure NxT where
  expr : St → RT
  formula : St → RT
  nots : St → RT
  factor : St → RT
structure NxM (nx : Nx) (nt : NxT) : Prop where
  expr : ∀ s, nx.expr s = im T (nt.expr s)
  formula : ∀ s, nx.formula s = im T (nt.formula s)
  nots : ∀ s, nx.nots s = im T (nt.nots s)
  factor : ∀ s, nx.factor s = im T (nt.factor s)
end

section
variable (T : List Tok) (D n : Nat) (nt : NxT)
def argsT (s : St) : RT := partsT T nt.expr (fuelQ T (nt.expr s).2) 1 (nt.expr s)
def nameBT (a : RT) : RT := if isQ T [46] a.2 = true then (a.1 ++ (leafT T a.2).1 ++ (kindT T 1 (leafT T a.2).2).1, (kindT T 1 (leafT T a.2).2).2) else a
def nameCT (b : RT) : RT := (b.1 ++ (mustT T [40] b.2).1, (mustT T [40] b.2).2)
def nameDT (c : RT) : RT := if isQ T [41] c.2 = true then c else (c.1 ++ (argsT T nt c.2).1, (argsT T nt c.2).2)
def nameET (d : RT) : RT := ([.nd 13 (d.1 ++ (mustT T [41] d.2).1)], (mustT T [41] d.2).2)
def nameT (s : St) : RT :=
  if (leafT T s).2.inn = true ∨ (isQ T [46] (leafT T s).2 = false ∧ isQ T [40] (leafT T s).2 = false) then ([.nd 14 (leafT T s).1], (leafT T s).2)
  else nameET T (nameDT T nt (nameCT T (nameBT T (leafT T s))))
def atomT (s : St) : RT :=
  if s.e ≠ 0 then ([], s)
  else if (tokQ T s).kind = 3 then ([.nd 15 (leafT T s).1], (leafT T s).2)
  else if isQ T [116, 114, 117, 101] s = true ∨ isQ T [102, 97, 108, 115, 101] s = true then ([.nd 16 (leafT T s).1], (leafT T s).2)
  else if s.inn = true ∧ isQ T [114, 101, 115] s = true then ([.nd 17 (leafT T s).1], (leafT T s).2)
  else if isQ T [40] s = true then
    let l := leafT T s
    let b := nt.expr l.2
    let c := mustT T [41] b.2
    ([.nd 12 (l.1 ++ b.1 ++ c.1)], c.2)
  else if (tokQ T s).kind = 1 then nameT T nt s
  else ([], failQ T 22 s)
def signT (sub : St → RT) (s : St) : RT :=
  let l := leafT T s
  let t := nestQ T D (n + 1) l.2
  if t.e ≠ 0 then ([], t) else ([.nd 11 (l.1 ++ (sub t).1)], (sub t).2)
def factorT (s : St) : RT := if isQ T [45] s = true then signT T D n nt.factor s else atomT T nt s
def productT (s : St) : RT := rwT T (isMul T) (factorT T D n nt) (fuelQ T (factorT T D n nt s).2) (factorT T D n nt s)
def sumT (s : St) : RT := rwT T (isAdd T) (productT T D n nt) (fuelQ T (productT T D n nt s).2) (productT T D n nt s)
def notT (s : St) : RT :=
  if isQ T [110, 111, 116] s = true then signT T D n nt.nots s
  else
    let a := sumT T D n nt s
    if isCmp T a.2 = true then
      let l := leafT T a.2
      let b := sumT T D n nt l.2
      ([.nd 10 (a.1 ++ l.1 ++ b.1)], b.2)
    else a
def andT (s : St) : RT := rwT T (isQ T [38, 38]) (notT T D n nt) (fuelQ T (notT T D n nt s).2) (notT T D n nt s)
def orT (s : St) : RT := rwT T (isQ T [124, 124]) (andT T D n nt) (fuelQ T (andT T D n nt s).2) (andT T D n nt s)
def formulaT (s : St) : RT :=
  let a := orT T D n nt s
  if isQ T [61, 62] a.2 = true then
    let l := leafT T a.2
    let t := nestQ T D (n + 1) l.2
    if t.e ≠ 0 then ([], t) else ([.nd 10 (a.1 ++ l.1 ++ (nt.formula t).1)], (nt.formula t).2)
  else a
def letT (s : St) : RT :=
  let l := leafT T s
  let k := kindT T 1 l.2
  let q := mustT T [61] k.2
  let a := nt.expr q.2
  let i := mustT T [105, 110] a.2
  let b := nt.expr i.2
  ([.nd 7 (l.1 ++ k.1 ++ q.1 ++ a.1 ++ i.1 ++ b.1)], b.2)
def ifT (s : St) : RT :=
  let l := leafT T s
  let a := nt.expr l.2
  let t := mustT T [116, 104, 101, 110] a.2
  let b := nt.expr t.2
  let e := mustT T [101, 108, 115, 101] b.2
  let c := nt.expr e.2
  ([.nd 8 (l.1 ++ a.1 ++ t.1 ++ b.1 ++ e.1 ++ c.1)], c.2)
def assertT (s : St) : RT :=
  let l := leafT T s
  let a := nt.expr l.2
  let i := mustT T [105, 110] a.2
  let b := nt.expr i.2
  ([.nd 9 (l.1 ++ a.1 ++ i.1 ++ b.1)], b.2)
def exprT (s : St) : RT :=
  let t := nestQ T D n s
  if t.e ≠ 0 then ([], t)
  else if t.inn = false ∧ isQ T [108, 101, 116] t = true then letT T nt t
  else if t.inn = false ∧ isQ T [105, 102] t = true then ifT T nt t
  else if t.inn = false ∧ isQ T [97, 115, 115, 101, 114, 116] t = true then assertT T nt t
  else formulaT T D n nt t

variable {nx : Nx} (h : NxM T nx nt)
include h
theorem args_m (s : St) : argsQ T nx s = im T (argsT T nt s) := by
  unfold argsQ argsT; rw [h.expr, parts_m T h.expr]; rfl
omit h in
theorem nameB_m (a : RT) : nameB T (im T a) = im T (nameBT T a) := by
  unfold nameB nameBT; rw [im_ite]; simp only [im_snd, leaf_m, kind_m, im_fst]; simp only [im, dmps_append]
omit h in
theorem nameC_m (a : RT) : nameC T (im T a) = im T (nameCT T a) := by
  unfold nameC nameCT; simp only [im_snd, must_m, im_fst]; simp only [im, dmps_append]
theorem nameD_m (a : RT) : nameD T nx (im T a) = im T (nameDT T nt a) := by
  unfold nameD nameDT; rw [im_ite]; simp only [im_snd, args_m T nt h, im_fst]; simp only [im, dmps_append]
omit h in
theorem nameE_m (a : RT) : nameE T (im T a) = im T (nameET T a) := by
  unfold nameE nameET; simp only [im_snd, must_m, im_fst]; simp only [im, dmps_append, dmps_node]; simp [digT]
theorem name_m (s : St) : nameQ T nx s = im T (nameT T nt s) := by
  have e : (leafT T s).2 = (leafQ T s).2 := rfl
  unfold nameQ nameT
  by_cases hc : (leafQ T s).2.inn = true ∨ (isQ T [46] (leafQ T s).2 = false ∧ isQ T [40] (leafQ T s).2 = false)
  · have hc2 := hc
    rw [← e] at hc2
    rw [if_pos hc, if_pos hc2, leaf_m]; simp only [im, dmps_node]; rfl
  · have hc2 := hc
    rw [← e] at hc2
    rw [if_neg hc, if_neg hc2, leaf_m, nameB_m, nameC_m, nameD_m T nt h, nameE_m]
theorem atom_m (s : St) : atomQ T nx s = im T (atomT T nt s) := by
  unfold atomQ atomT
  simp only [im_ite, leaf_m, im_snd, im_fst, h.expr, must_m, name_m T nt h]
  simp only [im, dmps_node, dmps_append, dmps_nil]; simp [digT]
omit h in
theorem sign_m {sub : St → RQ} {subT : St → RT} (hs : ∀ s, sub s = im T (subT s)) (s : St) : signQ T D n sub s = im T (signT T D n subT s) := by
  unfold signQ signT
  simp only [im_ite, leaf_m, im_snd, im_fst, hs]
  simp only [im, dmps_node, dmps_append, dmps_nil]; simp [digT]
theorem factor_m (s : St) : factorQ T D n nx s = im T (factorT T D n nt s) := by
  unfold factorQ factorT; rw [im_ite, sign_m T D n h.factor, atom_m T nt h]
theorem product_m (s : St) : productQ T D n nx s = im T (productT T D n nt s) := by
  unfold productQ productT; rw [factor_m T D n nt h, row_m T (factor_m T D n nt h)]; rfl
theorem sum_m (s : St) : sumQ T D n nx s = im T (sumT T D n nt s) := by
  unfold sumQ sumT; rw [product_m T D n nt h, row_m T (product_m T D n nt h)]; rfl
theorem not_m (s : St) : notQ T D n nx s = im T (notT T D n nt s) := by
  unfold notQ notT
  simp only [im_ite, sign_m T D n h.nots, sum_m T D n nt h, leaf_m, im_snd, im_fst]
  simp only [im, dmps_node, dmps_append, dmps_nil]; simp [digT]
theorem and_m (s : St) : andQ T D n nx s = im T (andT T D n nt s) := by
  unfold andQ andT; rw [not_m T D n nt h, row_m T (not_m T D n nt h)]; rfl
theorem or_m (s : St) : orQ T D n nx s = im T (orT T D n nt s) := by
  unfold orQ orT; rw [and_m T D n nt h, row_m T (and_m T D n nt h)]; rfl
theorem formula_m (s : St) : formulaQ T D n nx s = im T (formulaT T D n nt s) := by
  unfold formulaQ formulaT
  simp only [im_ite, or_m T D n nt h, leaf_m, im_snd, im_fst, h.formula]
  simp only [im, dmps_node, dmps_append, dmps_nil]; simp [digT]
theorem let_m (s : St) : letQ T nx s = im T (letT T nt s) := by
  unfold letQ letT
  simp only [leaf_m, im_snd, im_fst, h.expr, must_m, kind_m]
  simp only [im, dmps_node, dmps_append, dmps_nil]; simp [digT]
theorem if_m (s : St) : ifQ T nx s = im T (ifT T nt s) := by
  unfold ifQ ifT
  simp only [leaf_m, im_snd, im_fst, h.expr, must_m, kind_m]
  simp only [im, dmps_node, dmps_append, dmps_nil]; simp [digT]
theorem assert_m (s : St) : assertQ T nx s = im T (assertT T nt s) := by
  unfold assertQ assertT
  simp only [leaf_m, im_snd, im_fst, h.expr, must_m, kind_m]
  simp only [im, dmps_node, dmps_append, dmps_nil]; simp [digT]
theorem expr_m (s : St) : exprQ T D n nx s = im T (exprT T D n nt s) := by
  unfold exprQ exprT
  simp only [im_ite, let_m T nt h, if_m T nt h, assert_m T nt h, formula_m T D n nt h]
  simp only [im, dmps_nil]
end

def nxT (T : List Tok) (D : Nat) : Nat → NxT
  | 0 => { expr := fun s => ([], nestQ T D (D + 1) s), formula := fun s => ([], s), nots := fun s => ([], s), factor := fun s => ([], s) }
  | d + 1 => { expr := exprT T D (D - d) (nxT T D d), formula := formulaT T D (D - d) (nxT T D d), nots := notT T D (D - d) (nxT T D d), factor := factorT T D (D - d) (nxT T D d) }
theorem nx_m (T : List Tok) (D : Nat) : ∀ d, NxM T (nxQ T D d) (nxT T D d)
  | 0 => ⟨fun s => by simp [nxQ, nxT, im, dmps], fun s => by simp [nxQ, nxT, im, dmps], fun s => by simp [nxQ, nxT, im, dmps], fun s => by simp [nxQ, nxT, im, dmps]⟩
  | d + 1 => ⟨expr_m T D _ _ (nx_m T D d), formula_m T D _ _ (nx_m T D d), not_m T D _ _ (nx_m T D d), factor_m T D _ _ (nx_m T D d)⟩
end Go.Proofs.YtmlcpihedmmlfaaGreatDoor
namespace Go.Proofs.YtmlcpihedmmlfaaGreatDoor

section
variable (T : List Tok) (et : St → RT)
def typBT (a : RT) : RT :=
  if isQ T [105, 110, 116] a.2 = true ∨ isQ T [98, 111, 111, 108] a.2 = true then (a.1 ++ [.nd 5 (leafT T a.2).1], (leafT T a.2).2)
  else (a.1, failQ T 22 a.2)
def typCT (b : RT) : RT :=
  if isQ T [123] b.2 = true then
    let f := et (setIn true (leafT T b.2).2)
    let m := mustT T [125] (setIn false f.2)
    (b.1 ++ [.nd 6 ((leafT T b.2).1 ++ f.1 ++ m.1)], m.2)
  else b
def typedT (s : St) : RT := typCT T et (typBT T (mustT T [58] s))
def parT (s : St) : RT :=
  let k := kindT T 1 s
  let t := typedT T et k.2
  ([.nd 4 (k.1 ++ t.1)], t.2)
def paramsT (s : St) : RT := partsT T (parT T et) (fuelQ T (parT T et s).2) 1 (parT T et s)
def defAT (s : St) : RT := if isQ T [112, 117, 98] s = true then leafT T s else ([], s)
def defBT (p : RT) : RT :=
  let u := mustT T [102, 117, 110] p.2
  let k := kindT T 1 u.2
  let o := mustT T [40] k.2
  (p.1 ++ (u.1 ++ k.1 ++ o.1), o.2)
def defCT (o : RT) : RT := if o.2.e = 0 ∧ isQ T [41] o.2 = false then (o.1 ++ (paramsT T et o.2).1, (paramsT T et o.2).2) else o
def defDT (r : RT) : RT :=
  let c := mustT T [41] r.2
  let t := typedT T et c.2
  let q := mustT T [61] t.2
  let x := et q.2
  let m := mustT T [59] x.2
  (r.1 ++ (c.1 ++ t.1 ++ q.1) ++ x.1 ++ m.1, m.2)
def defT (s : St) : RT := ([.nd 3 (defDT T et (defCT T et (defBT T (defAT T s)))).1], (defDT T et (defCT T et (defBT T (defAT T s)))).2)
def impStepT (r : RT) : RT :=
  let l := leafT T r.2
  let k := kindT T 1 l.2
  let m := mustT T [59] k.2
  (r.1 ++ [.nd 2 (l.1 ++ k.1 ++ m.1)], m.2)
def manyT (c : St → Bool) (step : RT → RT) (most : Nat) : Nat → Nat → RT → Bool × RT
  | 0, _, r => (true, r)
  | f + 1, k, r => if c r.2 = true then (if k = most then (false, ([], failQ T 15 r.2)) else manyT c step most f (k + 1) (step r)) else (true, r)
def importsT (r : RT) : Bool × RT := manyT T (isQ T [105, 109, 112, 111, 114, 116]) (impStepT T) 16 (fuelQ T r.2) 0 r
def defStepT (r : RT) : RT := (r.1 ++ (defT T et r.2).1, (defT T et r.2).2)
def defsT (r : RT) : Bool × RT := manyT T (isDef T) (defStepT T et) 64 (fuelQ T r.2) 0 r
/-- A program's parts; none where it is refused. -/
def programT (s : St) : RT :=
  if (importsT T ([], s)).1 = false then (importsT T ([], s)).2
  else if (defsT T et (importsT T ([], s)).2).1 = false then (defsT T et (importsT T ([], s)).2).2
  else ((defsT T et (importsT T ([], s)).2).2.1 ++ (kindT T 5 (defsT T et (importsT T ([], s)).2).2.2).1, (kindT T 5 (defsT T et (importsT T ([], s)).2).2.2).2)
def aloneT (s : St) : RT :=
  let x := et (setIn true s)
  let k := kindT T 5 x.2
  (x.1 ++ k.1, k.2)

variable {ex : St → RQ} (h : ∀ s, ex s = im T (et s))
include h
omit h in
theorem typB_m (a : RT) : typB T (im T a) = im T (typBT T a) := by
  unfold typB typBT; rw [im_ite]; simp only [im_snd, leaf_m, im_fst]; simp only [im, dmps_append, dmps_node]; rfl
theorem typC_m (a : RT) : typC T ex (im T a) = im T (typCT T et a) := by
  unfold typC typCT; simp only [im_ite, im_snd, leaf_m, im_fst, h, must_m]; simp only [im, dmps_append, dmps_node]; simp [digT]
theorem typed_m (s : St) : typedQ T ex s = im T (typedT T et s) := by
  unfold typedQ typedT; rw [must_m, typB_m, typC_m T et h]
theorem par_m (s : St) : parQ T ex s = im T (parT T et s) := by
  unfold parQ parT; simp only [kind_m, im_snd, typed_m T et h, im_fst]; simp only [im, dmps_append, dmps_node]; simp [digT]
theorem params_m (s : St) : paramsQ T ex s = im T (paramsT T et s) := by
  unfold paramsQ paramsT; rw [par_m T et h, parts_m T (par_m T et h)]; rfl

/-- What stands ahead of the rest: a definition's number. -/
def ahead (a : List UInt8) (r : RQ) : RQ := (a ++ r.1, r.2)
omit h in
theorem defA_m (s : St) : defA T s = ahead [32, 40, 51] (im T (defAT T s)) := by
  unfold defA defAT; rw [im_ite, leaf_m]; split <;> simp [ahead, im, dmps]
omit h in
theorem defB_m (a : RT) : defB T (ahead [32, 40, 51] (im T a)) = ahead [32, 40, 51] (im T (defBT T a)) := by
  unfold defB defBT
  show ((ahead [32, 40, 51] (im T a)).1 ++ _, _) = _
  simp only [ahead, im_snd, must_m, kind_m, im_fst]
  simp only [im, dmps_append]; simp
theorem defC_m (a : RT) : defC T ex (ahead [32, 40, 51] (im T a)) = ahead [32, 40, 51] (im T (defCT T et a)) := by
  unfold defC defCT
  rw [im_ite]
  simp only [ahead, im_snd, params_m T et h, im_fst]
  split <;> simp [im, dmps_append]
theorem defD_m (a : RT) : defD T ex (ahead [32, 40, 51] (im T a)) = (([32, 40, 51] ++ (im T (defDT T et a)).1 ++ [41]), (defDT T et a).2) := by
  unfold defD defDT
  simp only [ahead, im_snd, must_m, typed_m T et h, h, im_fst]
  simp only [im, dmps_append]; simp
theorem def_m (s : St) : defQ T ex s = im T (defT T et s) := by
  unfold defQ defT
  rw [defA_m, defB_m, defC_m T et h, defD_m T et h]
  simp only [im, dmps_node]; rfl
omit h in
theorem impStep_m (r : RT) : impStep T (ahead [40, 49] (im T r)) = ahead [40, 49] (im T (impStepT T r)) := by
  unfold impStep impStepT
  simp only [ahead, im_snd, leaf_m, must_m, kind_m, im_fst]
  simp only [im, dmps_append, dmps_node]; simp [digT]
theorem defStep_m (r : RT) : defStep T ex (ahead [40, 49] (im T r)) = ahead [40, 49] (im T (defStepT T et r)) := by
  unfold defStep defStepT
  simp only [ahead, im_snd, def_m T et h, im_fst]
  simp only [im, dmps_append]; simp
/-- The same of what many answer: none, or what stands ahead and the texts. -/
def outM (T : List Tok) (b : Bool × RT) : Bool × RQ := (b.1, if b.1 = true then ahead [40, 49] (im T b.2) else im T b.2)
omit h in
theorem many_m {c : St → Bool} {step : RQ → RQ} {stepT : RT → RT} {most : Nat} (hs : ∀ r, step (ahead [40, 49] (im T r)) = ahead [40, 49] (im T (stepT r))) : ∀ f k r, manyQ T c step most f k (ahead [40, 49] (im T r)) = outM T (manyT T c stepT most f k r)
  | 0, k, r => rfl
  | f + 1, k, r => by
    unfold manyQ manyT
    have e : (ahead [40, 49] (im T r)).2 = r.2 := rfl
    rw [e]
    split
    · split
      · simp [outM, im, dmps]
      · rw [hs, many_m hs f]
    · rfl
omit h in
theorem imports_m (s : St) : importsQ T ([40, 49], s) = outM T (importsT T ([], s)) := by
  have e : (([40, 49], s) : RQ) = ahead [40, 49] (im T ([], s)) := by simp [ahead, im, dmps]
  unfold importsQ importsT
  rw [e, many_m T (impStep_m T)]; rfl
theorem defs_m (r : RT) : defsQ T ex (ahead [40, 49] (im T r)) = outM T (defsT T et r) := by
  unfold defsQ defsT
  rw [many_m T (defStep_m T et h)]; rfl
omit h in
theorem many_bad {c : St → Bool} {stepT : RT → RT} {most : Nat} : ∀ f k r, (manyT T c stepT most f k r).1 = false → (manyT T c stepT most f k r).2.2.e ≠ 0
  | 0, k, r, hh => by cases hh
  | f + 1, k, r, hh => by
    unfold manyT at hh ⊢
    split at hh
    · rename_i hc
      rw [if_pos hc]
      split at hh
      · rename_i hk
        rw [if_pos hk]
        exact fail_e T (by decide) _
      · rename_i hk
        rw [if_neg hk]
        exact many_bad f _ _ hh
    · cases hh
/-- Where no fault was, a program's answer is its tree's text. -/
theorem program_m (s : St) : (programQ T ex s).2 = (programT T et s).2 ∧ ((programT T et s).2.e = 0 → (programQ T ex s).1 = dmp T (.nd 1 (programT T et s).1)) := by
  have hb1 := many_bad T (c := isQ T [105, 109, 112, 111, 114, 116]) (stepT := impStepT T) (most := 16) (fuelQ T s) 0 ([], s)
  have hb1' : (importsT T ([], s)).1 = false → (importsT T ([], s)).2.2.e ≠ 0 := hb1
  have hI := imports_m T s
  unfold programQ programT
  rw [hI]
  generalize importsT T ([], s) = I at *
  obtain ⟨i1, r⟩ := I
  cases i1
  · refine ⟨rfl, fun he => absurd he (hb1' rfl)⟩
  · have hb2 := many_bad T (c := isDef T) (stepT := defStepT T et) (most := 64) (fuelQ T r.2) 0 r
    have hb2' : (defsT T et r).1 = false → (defsT T et r).2.2.e ≠ 0 := hb2
    have hD := defs_m T et h r
    have e : (outM T (true, r)).2 = ahead [40, 49] (im T r) := rfl
    have e1 : (outM T (true, r)).1 = true := rfl
    rw [e, hD, e1]
    show (if true = false then _ else _ : RQ).2 = (if true = false then _ else _ : RT).2 ∧ _
    generalize defsT T et r = J at *
    obtain ⟨j1, z⟩ := J
    cases j1
    · refine ⟨by simp [outM, im], fun he => absurd he (by simpa using hb2' rfl)⟩
    · have e2 : (outM T (true, z)).2 = ahead [40, 49] (im T z) := rfl
      have e3 : (outM T (true, z)).1 = true := rfl
      rw [e2, e3]
      simp only [endQ, ahead, im_snd, kind_m, im_fst]
      refine ⟨by simp, fun _ => ?_⟩
      simp only [dmp]; simp [digT, dmps_append]
theorem alone_m (s : St) : (aloneQ T ex s).2 = (aloneT T et s).2 ∧ (aloneQ T ex s).1 = dmp T (.nd 18 (aloneT T et s).1) := by
  unfold aloneQ aloneT
  simp only [h, im_snd, kind_m, im_fst]
  refine ⟨trivial, ?_⟩
  simp only [dmp, dmps_append]; simp [digT]
end
end Go.Proofs.YtmlcpihedmmlfaaGreatDoor
