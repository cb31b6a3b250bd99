/- strings.Builder: copyCheck and WriteString, at a builder of one's own. -/
import Derived.Test.YthclkbaankjbiaaGreatDoorSBase
import Derived.Test.YthclkbaankjbiaaGreatDoorShelf
import Derived.Lib.Builder
import Derived.Lib.AppendStr
import Derived.Lib.UnsafeStr
import Derived.Lib.Walk
import Derived.Laws.Externs
import Derived.Test.YthclkbaankjbiaaGreatDoorM5
import Derived.Test.YthclkbaankjbiaaGreatDoorM3
import Derived.Test.YthclkbaankjbiaaGreatDoorM4
import Derived.Deep.RegionWith
import Derived.Deep.RegionLaw
namespace Go.Proofs.YthclkbaankjbiaaGreatDoor
open Go.RowKit

abbrev tB : TypeId := 60
abbrev tU : TypeId := 5

theorem sizeB : (Tryz.prog.info? 60).map (·.size) = some 2 := by kernel_rfl
theorem liesB : liesAt Tryz.prog Tryz.prog.depth 60 (2 / Tryz.prog.cellsOf 60) 0 60 1 = true := by kernel_rfl
theorem infoU : (Tryz.prog.info? 5).map (fun i => (i.zero, i.size, i.bytes)) = some (some (.int .u8 0), 1, 1) := by kernel_rfl

set_option maxHeartbeats 1000000 in
set_option maxRecDepth 100000 in
theorem copyCheck_used (b : Nat) (w : World) (h0 : w.cell? ⟨b, 0, none⟩ = some (.pointer (some ⟨b, 0, none⟩))) :
    Calls Tryz.prog 56 #[.pointer (some ⟨b, 0, none⟩)] w fun e w' => e = .returned (.tuple #[]) ∧ w' = w := by
  obtain ⟨j, hj, _⟩ := Option.map_eq_some_iff.1 sizeB
  go_enter Tryz.func56, Tryz.ntmps56
  go_wp2
  rw [Lib.run_neq_ptr_same w _ Tryz.underlying57 hj]
  go_wp2
  go_end0
  exact ⟨rfl, rfl⟩

set_option maxHeartbeats 1000000 in
set_option maxRecDepth 100000 in
theorem copyCheck_fresh (b : Nat) (w : World) (h0 : w.cell? ⟨b, 0, none⟩ = some (.pointer none)) (hsh : w.shape? b = some (60, 2)) (hfz : w.frozen? ⟨b, 0, none⟩ = false) :
    Calls Tryz.prog 56 #[.pointer (some ⟨b, 0, none⟩)] w fun e w' => e = .returned (.tuple #[]) ∧ w' = w.setCell ⟨b, 0, none⟩ (.pointer (some ⟨b, 0, none⟩)) := by
  obtain ⟨j, hj, hjs⟩ := Option.map_eq_some_iff.1 sizeB
  go_enter Tryz.func56, Tryz.ntmps56
  go_wp2
  rw [Lib.run_to_unsafe w ⟨b, 0, none⟩ Tryz.underlying57 Tryz.underlying114 hj (by rw [hjs]; decide) hsh (Nat.zero_lt_succ 1)]
  simp only [Result.andThen]
  rw [Oper.upon_value]
  go_wp2
  rw [run_callFunc_extern Tryz.func87 (by kernel_rfl) (by kernel_rfl) (by kernel_rfl) (e := Extern.AbiNoEscape.same) (by kernel_rfl)]
  rw [Lib.run_noEscape]
  simp only [Result.andThen]
  rw [Oper.upon_value]
  go_wp2
  rw [Lib.run_from_unsafe w ⟨b, 0, none⟩ Tryz.underlying114 Tryz.underlying57 hj hsh liesB]
  simp only [Result.andThen]
  rw [Oper.upon_value]
  go_wp2
  go_end0
  exact ⟨rfl, rfl⟩

/-- Blocks of other things than bytes, but b, are as they were. -/
def OKept (b : Nat) (w w' : World) : Prop := ∀ (g : Nat) (cs : Array Value) (T : TypeId), w.heap[g]? = some (.cells cs T (0, 0)) → T ≠ 5 → g ≠ b → w'.heap[g]? = some (.cells cs T (0, 0))

theorem OKept.trans {b : Nat} {w w1 w2 : World} (h : OKept b w w1) (k : OKept b w1 w2) : OKept b w w2 := fun g cs T h1 h2 h3 => k g cs T (h g cs T h1 h2 h3) h2 h3
theorem OKept.none {b : Nat} {w w' : World} (h : w.grownBy w' Option.none) : OKept b w w' := fun g cs T h1 _ _ => bx h h1

theorem hlt' {a : World} {h : Nat} {o : Obj} (hb : a.heap[h]? = some o) : h < a.heap.size := hlt hb

theorem copyCheck_c (B b : Nat) (bs : List Value) (w : World) (h : Lib.IsBuilder 60 5 B b bs w) :
    Calls Tryz.prog 56 #[.pointer (some ⟨b, 0, none⟩)] w fun e w' => e = .returned (.tuple #[]) ∧ (Lib.BuilderAt 60 5 B b (.pointer (some ⟨b, 0, none⟩)) bs w' ∧ Below B w w') ∧ Fr2 (fun k => k = b) w w' := by
  rcases h with h | h
  · refine (copyCheck_fresh b w h.cell0 h.shape h.frozen0).mono ?_
    rintro e w' ⟨rfl, rfl⟩
    exact ⟨rfl, ⟨h.used _, (Below.refl B w).setCell (p := ⟨b, 0, none⟩) h.1 _⟩, Fr2.setCell (S := fun k => k = b) (Fr2.refl _ _) rfl _⟩
  · refine (copyCheck_used b w h.cell0).mono ?_
    rintro e w' ⟨rfl, rfl⟩
    exact ⟨rfl, ⟨h, Below.refl B _⟩, Fr2.refl _ _⟩

set_option maxHeartbeats 1000000 in
set_option maxRecDepth 100000 in
theorem WriteString_c (B b : Nat) (bs : List Value) (s : ByteArray) (w : World) (h : Lib.IsBuilder 60 5 B b bs w) (hlen : bs.length + s.size ≤ 140737488355328) (hBw : B ≤ w.heap.size) :
    Calls Tryz.prog 29 #[.pointer (some ⟨b, 0, none⟩), .string s] w fun e w' => e = .returned (.tuple #[.int .i64 s.size, .nilIface]) ∧ (Lib.BuilderAt 60 5 B b (.pointer (some ⟨b, 0, none⟩)) (bs ++ Lib.strCells s) w' ∧ Below B w w') ∧ OKept b w w' := by
  obtain ⟨i0, hi, hz0, hz1, hz2⟩ := info_parts infoU
  go_enter Tryz.func29, Tryz.ntmps29
  go_wp2_with (go_at_call 56; refine (copyCheck_c B b bs _ h).mono ?_)
  rintro e w1 ⟨rfl, ⟨h1, hb1⟩, hf1⟩
  have HF1 := Lib.hid hf1
  clear hf1
  obtain ⟨hB, v, hbk, hown, hne⟩ := h1
  have c0 : w1.cell? ⟨b, 0, none⟩ = some (.pointer (some ⟨b, 0, none⟩)) := by rw [Lib.cell_of_heap hbk]; rfl
  have c1 : w1.cell? ⟨b, 1, none⟩ = some v := by rw [Lib.cell_of_heap hbk]; rfl
  go_wp2_with (at_builtin; refine Lib.wpList_append_own_string _ rfl _ _ 58 9 rfl B 5 i0 Tryz.underlying58 Tryz.underlying9 hi hz0 hz1 hz2 _ _ _ rfl hown s rfl ?c3 ?c4 ?c5 ?_)
  case c3 => unfold maxLen; omega
  case c4 => omega
  case c5 => have := hb1.size; omega
  intro v' w2 hown' hgrow _
  have hlt : b < w1.heap.size := by
    rcases Nat.lt_or_ge b w1.heap.size with h' | h'
    · exact h'
    · simp [Array.getElem?_eq_none h'] at hbk
  have hb2 : w2.heap[b]? = some (.cells #[.pointer (some ⟨b, 0, none⟩), v] 60 (0, 0)) := by
    rw [hgrow.block b hlt (fun e => hne e.symm)]
    exact hbk
  have d0 : w2.cell? ⟨b, 0, none⟩ = some (.pointer (some ⟨b, 0, none⟩)) := by rw [Lib.cell_of_heap hb2]; rfl
  have d1 : w2.cell? ⟨b, 1, none⟩ = some v := by rw [Lib.cell_of_heap hb2]; rfl
  have f1 : w2.frozen? ⟨b, 1, none⟩ = false := Lib.frozen_of_heap hb2 1
  obtain ⟨ao, n', cap, rfl⟩ : ∃ ao n' cap, v' = .slice ao n' cap := by
    rcases hown'.2 with ⟨hv, _⟩ | ⟨g, cap, cur, hv, _⟩
    · exact ⟨_, _, _, hv⟩
    · exact ⟨_, _, _, hv⟩
  go_wp2
  go_ret2
  refine ⟨rfl, ⟨?_, ?_⟩, ?_⟩
  · exact Lib.BuilderAt.put (T := 60) (e := 5) hB hb2 (bs' := bs ++ Lib.strCells s) (by simpa [Lib.strCells_length] using hown') (by decide)
  · exact (hb1.grown hgrow (by have := hb1.size; omega) (fun k hk => (hown.lt k hk).1)).setCell (p := ⟨b, 1, none⟩) hB _
  · intro g cs T h1 h2 h3
    have h4 := HF1.out.keep h1 h3
    have h5 := Lib.ownBlock_ne hown h4 h2
    have h6 : w2.heap[g]? = _ := (hgrow.block g (hlt' h4) (fun e => h5 e.symm)).trans h4
    rw [Below.heap_setCell _ _ _ _ (by simpa using h3)]
    exact h6

/-! ### A builder among others -/

theorem bld_kept {B b : Nat} {bs : List Value} {w w' : World} (h : Lib.IsBuilder 60 5 B b bs w) (hg : w.grownBy w' none) : Lib.IsBuilder 60 5 B b bs w' := by
  have one : ∀ p, Lib.BuilderAt 60 5 B b p bs w → Lib.BuilderAt 60 5 B b p bs w' := by
    intro p ⟨hB, v, hb, hown, hne⟩
    exact ⟨hB, v, bx hg hb, World.ownsRow.kept hown hg (by cases hv : v.ownBlock with | none => exact .inl rfl | some k => exact .inr (by simp)), hne⟩
  exact h.imp (one _) (one _)

/-- A builder where a block of other things alone has turned. -/
theorem bld_keptS {B b g : Nat} {bs : List Value} {w w' : World} {cs : Array Value} {T : TypeId} (h : Lib.IsBuilder 60 5 B b bs w) (hg : w.grownBy w' (some g)) (hgb : w.heap[g]? = some (.cells cs T (0, 0))) (hT : T ≠ 5) (hne : g ≠ b) : Lib.IsBuilder 60 5 B b bs w' := by
  have one : ∀ p, Lib.BuilderAt 60 5 B b p bs w → Lib.BuilderAt 60 5 B b p bs w' := by
    intro p ⟨hB, v, hb, hown, hn⟩
    have h5 := Lib.ownBlock_ne hown hgb hT
    exact ⟨hB, v, (hg.block b (hlt hb) (by simpa using hne.symm)).trans hb, World.ownsRow.kept hown hg (by cases hv : v.ownBlock with | none => exact .inl rfl | some k => exact .inr (fun e => h5 (hv.trans e))), hn⟩
  exact h.imp (one _) (one _)

theorem bld_new (w : World) (B : Nat) (hB : B ≤ w.heap.size) : Lib.IsBuilder 60 5 B w.heap.size [] (w.alloc (.cells #[.pointer none, .slice none 0 0] 60)) :=
  .inl ⟨hB, .slice none 0 0, heap_alloc_new w _, World.ownsRow_nil _ _ _ _, by simp [Value.ownBlock]⟩

theorem OwnQ.okept {T : TypeId} {w w' : World} {base b : Nat} {v : Value} {l : List (Value × Value)} (h : OwnQ T w base v l) (hg : OKept b w w') (hT : T ≠ 5) (hb : v.ownBlock ≠ some b) : OwnQ T w' base v l :=
  ⟨h.1, h.2.imp id fun ⟨g, cap, cur, e, hh, hb1, r⟩ => ⟨g, cap, cur, e, hh, hg g cur T hb1 hT (fun e2 => hb (by rw [e, e2]; rfl)), r⟩⟩
end Go.Proofs.YthclkbaankjbiaaGreatDoor
namespace Go.Proofs.YthclkbaankjbiaaGreatDoor
open Go.RowKit

def ValPost (v : Value) (w : World) (e : Ending) (w' : World) : Prop := e = .returned v ∧ w.grownBy w' none

set_option maxRecDepth 100000 in
theorem Clone_c (s : ByteArray) (w : World) (hlim : s.size ≤ 281474976710656) : Calls Tryz.prog 59 #[.string s] w (ValPost (.string s) w) := by
  have H := Lib.hid (Tryz.stringslite_Clone s w hlim)
  go_enter Tryz.func59, Tryz.ntmps59
  go_wp2_with fail
  refine H.out.mono ?_
  rintro e w1 ⟨rfl, hb⟩
  have HB := Lib.hid hb
  clear hb
  go_wp2_with fail
  go_ret
  exact ⟨rfl, below_gb HB.out⟩

/-- What Lex answers. -/
def LexPost (l : List UInt8) (w : World) (e : Ending) (w' : World) : Prop :=
  w.grownBy w' none ∧ if 65536 < l.length then e = .returned (.tuple #[.slice none 0 0, .agg #[.int .i64 11, .int .i64 0]])
    else if (allE l).2.1 ≠ 0 then e = .returned (.tuple #[.slice none 0 0, .agg #[.int .i64 ((allE l).2.1 : Nat), .int .i64 ((allE l).2.2 : Nat)]])
    else ∃ q c, e = .returned (.tuple #[.slice q (allE l).1.length c, .agg #[.int .i64 0, .int .i64 0]]) ∧ TAt w' q (allE l).1 ∧ (allE l).1.length ≤ c ∧ c ≤ maxLen

theorem tok_parts (s : ByteArray) {p : Nat} (hp : p ≤ s.size) : ∃ a k z, sk false (s.data.toList.drop p) = a ∧ firstE (s.data.toList.drop (p + a)) = (k, z) ∧ k ≤ 5 ∧ p + a + z ≤ s.size ∧ stepE (s.data.toList.drop p) = a + z ∧
    tokE (s.data.toList.drop p) p = ⟨k, (s.extract p (p + a)).data.toList, (s.extract (p + a) (p + a + z)).data.toList, p + a⟩ := by
  obtain ⟨a, ha⟩ : ∃ a, sk false (s.data.toList.drop p) = a := ⟨_, rfl⟩
  obtain ⟨k, z, hkz⟩ : ∃ k z, firstE (s.data.toList.drop (p + a)) = (k, z) := ⟨_, _, rfl⟩
  have h1 := sk_le (s.data.toList.drop p) false
  have h2 := firstE_le (s.data.toList.drop (p + a))
  have h3 := (firstE_kind (s.data.toList.drop (p + a))).1
  rw [ha, List.length_drop, list_len] at h1
  rw [hkz] at h2 h3
  rw [List.length_drop, list_len] at h2
  simp only at h2 h3
  refine ⟨a, k, z, ha, hkz, h3, by omega, ?_, ?_⟩
  · unfold stepE; rw [ha, List.drop_drop, hkz]
  · unfold tokE; rw [ha, List.drop_drop, hkz, ext_take, ext_take]

theorem big_post {s : ByteArray} {w w' : World} {e : Ending} (hs : 65536 < s.size) (hg : w.grownBy w' none) (he : e = .returned (.tuple #[.slice none 0 0, .agg #[.int .i64 11, .int .i64 0]])) : LexPost s.data.toList w e w' := by
  refine ⟨hg, ?_⟩
  rw [list_len, if_pos hs]; exact he
theorem fault_post {s : ByteArray} {w w' : World} {e : Ending} {n p : Nat} (hs : ¬ 65536 < s.size) (hf : (allE s.data.toList).2 = (n, p)) (hn : n ≠ 0) (hg : w.grownBy w' none) (he : e = .returned (.tuple #[.slice none 0 0, .agg #[.int .i64 (n : Int), .int .i64 (p : Int)]])) : LexPost s.data.toList w e w' := by
  refine ⟨hg, ?_⟩
  rw [list_len, if_neg hs, hf, if_pos hn]; exact he
theorem done_post {s : ByteArray} {w w' : World} {e : Ending} {O : List Tok} {q : Option Addr} {c : Nat} (hs : ¬ 65536 < s.size) (hf : allE s.data.toList = (O, 0, 0)) (hg : w.grownBy w' none) (he : e = .returned (.tuple #[.slice q O.length c, .agg #[.int .i64 0, .int .i64 0]])) (ht : TAt w' q O) (h1 : O.length ≤ c) (h2 : c ≤ maxLen) : LexPost s.data.toList w e w' := by
  refine ⟨hg, ?_⟩
  rw [list_len, if_neg hs, hf, if_neg (by simp)]; exact ⟨q, c, he, ht, h1, h2⟩

set_option maxRecDepth 100000 in
set_option maxHeartbeats 8000000 in
theorem Lex_c (s : ByteArray) (w : World) (hs : s.size ≤ 1000000) (hla : LaidE w) : Calls Tryz.prog 33 #[.string s] w (LexPost s.data.toList w) := by
  by_cases hbig : 65536 < s.size
  · have d1 : decide ((65536 : Int) < (s.size : Int)) = true := decide_eq_true (by omega)
    have d1' : decide (65536 < s.size) = true := decide_eq_true hbig
    go_enter Tryz.func33, Tryz.ntmps33
    go_wp2_with fail
    refine bodyPost_ret (v := .tuple #[.slice none 0 0, .agg #[.int .i64 11, .int .i64 0]]) (by simp [results, Tryz.results33, go_sem]) rfl (big_post hbig (World.grownBy_alloc w _ _) rfl)
  · have d1 : decide ((65536 : Int) < (s.size : Int)) = false := decide_eq_false (by omega)
    have d1' : decide (65536 < s.size) = false := decide_eq_false hbig
    have HBIG := Lib.hid hbig
    have HLA := Lib.hid hla
    have HB0 := Lib.hid (heap_alloc_new w (.cells #[.int .i64 0, .int .i64 0] 29))
    have HGA := Lib.hid (World.grownBy_alloc w (.cells #[.int .i64 0, .int .i64 0] 29) none)
    clear hla
    go_enter Tryz.func33, Tryz.ntmps33
    go_wp2_with fail
    refine (Clone_c s _ (by omega)).mono ?_
    rintro e w0 ⟨rfl, hg0⟩
    have HG0 := Lib.hid (gb_trans HGA.out hg0)
    have HBX0 := Lib.hid (bx hg0 HB0.out)
    have HSZ0 : Hid (w.heap.size < w0.heap.size) := Lib.hid (by have := hg0.size; simp at this; omega)
    clear hg0 d1 d1' HB0 HGA
    go_wp2_with fail
    go_loopw [4, 5] (fun ov pv wr => ∃ (p : Nat) (O : List Tok), p ≤ s.size ∧ pv = .int .i64 p ∧ Hid (RestE s.data.toList O p) ∧ Hid (OwnT 72 wr w0.heap.size ov O) ∧ Hid (w0.grownBy wr none)) (fun _ pv _ => s.size - (intOf pv).toNat)
    case atStart => exact ⟨0, [], Nat.zero_le _, rfl, Lib.hid (RestE.start _), Lib.hid (OwnT.nil _ _ _), gb_refl _ _⟩
    case round =>
      obtain ⟨p, O, hp, rfl, HR, HO, HG⟩ := hrel
      obtain ⟨a, k, z, ha, hkz, hk5, hpz, hst, htk⟩ := tok_parts s hp
      have HLS := leadSize_c (s.extract p s.size) wr (by rw [ByteArray.size_extract]; omega)
      rw [ext_end s p _ rfl, ha] at HLS
      have HLE := Lib.hid HLS
      have HF := fun W (h : LaidE W) => first_c (s.extract (p + a) s.size) W (by rw [ByteArray.size_extract]; omega) h
      rw [ext_end s (p + a) _ rfl, hkz] at HF
      simp only at HF
      have HFI := Lib.hid HF
      have HW := Lib.hid (fun W => wrong_c k hk5 (s.extract (p + a) (p + a + z)) W (by rw [ByteArray.size_extract]; omega))
      obtain ⟨n, hn⟩ : ∃ n, wrongE k (s.extract (p + a) (p + a + z)).data.toList = n := ⟨_, rfl⟩
      rw [hn] at HW
      have HTK := Lib.hid htk; have HN := Lib.hid hn; have HST := Lib.hid hst
      have hw1 : IntKind.i64.wrap ((p : Int) + (a : Int)) = (p : Int) + (a : Int) := IntWalk.i64_in _ (by omega)
      have hw2 : IntKind.i64.wrap ((p : Int) + (a : Int) + (z : Int)) = (p : Int) + (a : Int) + (z : Int) := IntWalk.i64_in _ (by omega)
      clear ha hkz hst htk hn HLS HF
      go_wp2_with fail
      refine HLE.out.mono ?_
      rintro e w1 ⟨rfl, hg1⟩
      have HG1 := Lib.hid (gb_trans HG.out hg1)
      have HO1 := Lib.hid (HO.out.kept hg1)
      clear hg1
      go_wp2_with fail
      refine (HFI.out w1 (HLA.out.kept (gb_trans HG0.out HG1.out))).mono ?_
      rintro e w2 ⟨rfl, rfl⟩
      go_wp2_with fail
      refine (HW.out w1).mono ?_
      rintro e w2 ⟨rfl, rfl⟩
      clear HLE HFI HW HG HO
      by_cases hn0 : n = 0
      · subst hn0
        have HLN : Hid (O.length ≤ 1000000) := Lib.hid (by have := HR.out.2.1; omega)
        have HTV : Hid (tokV (tokE (s.data.toList.drop p) p) = [.int .i64 (k : Int), .string (s.extract p (p + a)), .string (s.extract (p + a) (p + a + z)), .int .i64 ((p : Int) + (a : Int))]) := Lib.hid (by rw [HTK.out]; rfl)
        by_cases hk : k = 5
        · subst hk
          have HAL : Hid (allE s.data.toList = (O ++ [tokE (s.data.toList.drop p) p], 0, 0)) := Lib.hid (HR.out.done (by rw [HTK.out]; exact HN.out) (by rw [HTK.out]))
          go_wp2_with (at_builtin; go_loud (refine wpList_appT (t := 23) (T := 72) Tryz.underlying23 infoT rfl (by omega) rfl _ _ rfl w0.heap.size O (tokE (s.data.toList.drop p) p) _ _ _ _ HTV.out u4 rfl HO1.out _ rfl rfl HLN.out HG1.out.size ?_))
          intro g' cap' w6 hO6 hB6
          have HO6 := Lib.hid hO6
          have HG6 : Hid (w0.grownBy w6 none) := Lib.hid (below_gb (Below.trans2 (gb_below HG1.out) hB6))
          clear hO6 hB6 HO1
          obtain ⟨q, c, hq, hqt, hc1, hc2, hqb⟩ := HO6.out.is
          injection hq with hq1 hq2 hq3
          subst hq1; subst hq3
          rw [List.length_append, List.length_singleton] at hc1
          have HQT := Lib.hid hqt; have HC := Lib.hid hc1; have HC2 := Lib.hid hc2; have HQB := Lib.hid hqb
          have HLL : Hid ((O ++ [tokE (s.data.toList.drop p) p]).length = O.length + 1) := Lib.hid (by simp)
          have HBX := Lib.hid (bx HG6.out HBX0.out)
          obtain ⟨c0, c1, cf⟩ := cells2 HBX.out
          clear hqt hc1 hc2 hqb hq2
          go_wp2_with fail
          have hlt6 : w.heap.size < w6.heap.size := by have := HSZ0.out; have := HG6.out.size; omega
          have hne : ∀ a, some (⟨g', 0, none⟩ : Addr) = some a → w.heap.size < a.block := fun a ha => by
            have := HQB.out (by simp) a ha; have := HSZ0.out; omega
          refine bodyPost_ret (v := .tuple #[.slice (some ⟨g', 0, none⟩) (O.length + 1) cap', .agg #[.int .i64 0, .int .i64 0]]) (by simp [results, Tryz.results33, go_sem, c0, c1]) rfl ?_
          rw [← HLL.out]
          refine done_post HBIG.out HAL.out ?_ rfl ?_ ?_ HC2.out
          · exact below_gb (((gb_below (gb_trans HG0.out HG6.out)).setCell (by simp) _).setCell (by simp) _)
          · exact (HQT.out.setBox (fun _ => hne) _ _).setBox (fun _ => hne) _ _
          · rw [HLL.out]; exact HC.out
        · have d5 : ((k : Int) == 5) = false := beq_eq_false_iff_ne.2 (by omega)
          obtain ⟨hr2, hpos⟩ := HR.out.more (by rw [HTK.out]; exact HN.out) (by rw [HTK.out]; exact hk)
          rw [HST.out] at hr2 hpos
          have HR2 := Lib.hid hr2
          clear hr2
          go_wp2_with (at_builtin; go_loud (refine wpList_appT (t := 23) (T := 72) Tryz.underlying23 infoT rfl (by omega) rfl _ _ rfl w0.heap.size O (tokE (s.data.toList.drop p) p) _ _ _ _ HTV.out u4 rfl HO1.out _ rfl rfl HLN.out HG1.out.size ?_))
          intro g' cap' w6 hO6 hB6
          have HO6 := Lib.hid hO6
          have HG6 : Hid (w0.grownBy w6 none) := Lib.hid (below_gb (Below.trans2 (gb_below HG1.out) hB6))
          clear hO6 hB6 HO1
          go_wp2_with fail
          go_roundw
          case rel => exact ⟨p + (a + z), _, by omega, val_of (by omega), HR2, HO6, HG6⟩
          case measure => (simp [intOf] <;> omega)
      · have d1 : ((n : Int) == 0) = false := beq_eq_false_iff_ne.2 (by omega)
        have d2 : ((n : Int) != 0) = true := by rw [bne, d1]; rfl
        have HFA : Hid ((allE s.data.toList).2 = (n, p + a)) := Lib.hid (by
          have := HR.out.fault (by rw [HTK.out]; simp only; rw [HN.out]; exact hn0)
          rw [HTK.out] at this
          simp only at this
          rw [HN.out] at this; exact this)
        have HBX := Lib.hid (bx HG1.out HBX0.out)
        obtain ⟨c0, c1, cf⟩ := cells2 HBX.out
        go_wp2_with fail
        refine bodyPost_ret (v := .tuple #[.slice none 0 0, .agg #[.int .i64 (n : Int), .int .i64 ((p : Int) + (a : Int))]]) (by simp [results, Tryz.results33, go_sem, c0, c1]) rfl (fault_post (p := p + a) HBIG.out HFA.out hn0 ?_ rfl)
        exact below_gb (((gb_below (gb_trans HG0.out HG1.out)).setCell (by simp) _).setCell (by simp) _)
end Go.Proofs.YthclkbaankjbiaaGreatDoor
namespace Go.Proofs.YthclkbaankjbiaaGreatDoor
open Go.RowKit

def wholeL (l : List Tok) : List UInt8 := l.flatMap fun t => t.lead ++ t.text

theorem wholeL_append (l r : List Tok) : wholeL (l ++ r) = wholeL l ++ wholeL r := by unfold wholeL; rw [List.flatMap_append]
theorem wholeL_next {l : List Tok} {k : Nat} {t : Tok} (h : l[k]? = some t) : wholeL (l.take (k + 1)) = wholeL (l.take k) ++ t.lead ++ t.text := by
  rw [List.take_add_one, h, wholeL_append]; simp [wholeL]
theorem wholeL_take (l : List Tok) (k : Nat) : (wholeL (l.take k)).length ≤ (wholeL l).length := by
  have h1 : wholeL l = wholeL (l.take k) ++ wholeL (l.drop k) := by rw [← wholeL_append, List.take_append_drop]
  rw [h1, List.length_append]; omega

theorem strCells_mk (x : List UInt8) : Lib.strCells ⟨x.toArray⟩ = Lib.byteCells x := rfl

set_option maxRecDepth 100000 in
set_option maxHeartbeats 8000000 in
theorem Whole_c (q : Option Addr) (c : Nat) (l : List Tok) (w : World) (hl : l.length ≤ 1000000) (hL : (wholeL l).length ≤ 1000000) (h : TAt w q l) : Calls Tryz.prog 24 #[.slice q l.length c] w (StrGb (wholeL l) w) := by
  obtain ⟨m, hm⟩ : ∃ m, l.length = m := ⟨_, rfl⟩
  have HM := Lib.hid hm; have HA := Lib.hid h; have HL := Lib.hid hL
  rw [hm] at hl ⊢
  clear hm h hL
  go_enter Tryz.func24, Tryz.ntmps24
  go_wp2_with fail
  have hbl := bld_new w w.heap.size (Nat.le_refl _)
  have hga := World.grownBy_alloc w (.cells #[.pointer none, .slice none 0 0] 60) none
  generalize (w.alloc (.cells #[.pointer none, .slice none 0 0] 60)) = W at *
  obtain ⟨b, hb⟩ : ∃ b, w.heap.size = b := ⟨_, rfl⟩
  have HBB := Lib.hid hb
  rw [hb] at hbl ⊢
  have HBL := Lib.hid hbl; have HGA := Lib.hid hga
  clear hbl hga hb
  go_loopw [8] (fun i wr => ∃ k : Nat, k ≤ m ∧ i = .int .i64 k ∧ Hid (Lib.IsBuilder 60 5 b b (Lib.byteCells (wholeL (l.take k))) wr) ∧ Hid (w.grownBy wr none)) (fun i _ => m - (intOf i).toNat)
  case atStart => exact ⟨0, Nat.zero_le _, rfl, HBL, HGA⟩
  case round =>
    clear HBL HGA
    obtain ⟨k, hk, rfl, HBL, HG⟩ := hrel
    by_cases hlt : k < m
    · have d1 : decide ((k : Int) < (m : Int)) = true := decide_eq_true (by omega)
      have d1' : decide (k < m) = true := decide_eq_true hlt
      obtain ⟨t, ht⟩ : ∃ t, l[k]? = some t := ⟨l[k]'(by rw [HM.out]; exact hlt), List.getElem?_eq_getElem _⟩
      obtain ⟨g, off, rfl, hgl, hc⟩ := HA.out.resolve_left (fun h => by have h1 := HM.out; rw [h] at h1; simp at h1; omega)
      obtain ⟨c0, c1, c2, c3⟩ := hc k t ht
      have c0 := HG.out.cell c0 (by simp)
      have c1 := HG.out.cell c1 (by simp)
      have c2 := HG.out.cell c2 (by simp)
      have c3 := HG.out.cell c3 (by simp)
      have hnx := wholeL_next ht
      have hle1 := wholeL_take l k
      have hle2 := wholeL_take l (k + 1)
      have hL := HL.out
      rw [hnx] at hle2
      simp only [List.length_append] at hle2
      obtain ⟨x, hx⟩ : ∃ x : ByteArray, (⟨t.lead.toArray⟩ : ByteArray) = x := ⟨_, rfl⟩
      obtain ⟨y, hy⟩ : ∃ y : ByteArray, (⟨t.text.toArray⟩ : ByteArray) = y := ⟨_, rfl⟩
      have hxl : x.data.toList = t.lead := by rw [← hx]
      have hyl : y.data.toList = t.text := by rw [← hy]
      have hxs : x.size = t.lead.length := by rw [← list_len, hxl]
      have hys : y.size = t.text.length := by rw [← list_len, hyl]
      unfold strV at c1 c2
      rw [hx] at c1
      rw [hy] at c2
      have HNX : Hid (Lib.byteCells (wholeL (l.take (k + 1))) = Lib.byteCells (wholeL (l.take k)) ++ Lib.strCells x ++ Lib.strCells y) := Lib.hid (by
        rw [hnx, Lib.byteCells_append, Lib.byteCells_append, ← strCells_mk t.lead, ← strCells_mk t.text, hx, hy])
      have HZ1 : Hid ((Lib.byteCells (wholeL (l.take k))).length + x.size ≤ 140737488355328) := Lib.hid (by rw [Lib.byteCells_length]; omega)
      have HZ2 : Hid ((Lib.byteCells (wholeL (l.take k)) ++ Lib.strCells x).length + y.size ≤ 140737488355328) := Lib.hid (by rw [List.length_append, Lib.byteCells_length, Lib.strCells_length]; omega)
      have HBX := Lib.hid (heap_alloc_new wr (.cells #[.int .i64 (t.kind : Int), .string x, .string y, .int .i64 (t.pos : Int)] 72))
      have hga := World.grownBy_alloc wr (.cells #[.int .i64 (t.kind : Int), .string x, .string y, .int .i64 (t.pos : Int)] 72) none
      have HB2 := Lib.hid (bld_kept HBL.out hga)
      have HG2 := Lib.hid (gb_trans HG.out hga)
      have HXS : Hid (b < wr.heap.size) := Lib.hid (by
        rcases HBL.out with h | h
        · exact h.lt
        · exact h.lt)
      obtain ⟨b0, b1, b2, b3, b4⟩ := cells4 HBX.out
      generalize t.kind = tk at *
      generalize t.pos = tp at *
      clear hc hgl ht hnx hle1 hle2 hL hx hy hxl hyl hxs hys hga HBL HG b4
      go_wp2_with fail
      refine (WriteString_c b b _ x _ HB2.out HZ1.out (by have := HG2.out.size; rw [HBB.out] at this; exact this)).mono ?_
      rintro e w2 ⟨rfl, ⟨hb2, hbe2⟩, hok2⟩
      have HB3 := Lib.hid hb2
      have hgg : w.grownBy w2 none := below_gb (Below.trans2 (gb_below HG2.out) (by rw [HBB.out]; exact hbe2))
      have HG3 := Lib.hid hgg
      have hbx2 := hok2 _ _ _ HBX.out (by decide) (by have := HXS.out; omega)
      obtain ⟨e0, e1, e2, e3, e4⟩ := cells4 hbx2
      clear hb2 hbe2 hok2 hgg hbx2 b0 b1 b2 b3 c0 c1 c2 c3 HB2 e4
      go_wp2_with fail
      refine (WriteString_c b b _ y _ (.inr HB3.out) HZ2.out (by have := HG3.out.size; rw [HBB.out] at this; exact this)).mono ?_
      rintro e w3 ⟨rfl, ⟨hb3, hbe3⟩, -⟩
      rw [← HNX.out] at hb3
      have HB4 : Hid (Lib.IsBuilder 60 5 b b (Lib.byteCells (wholeL (l.take (k + 1)))) w3) := Lib.hid (.inr hb3)
      have hgg : w.grownBy w3 none := below_gb (Below.trans2 (gb_below HG3.out) (by rw [HBB.out]; exact hbe3))
      have HG4 := Lib.hid hgg
      clear hb3 hbe3 hgg HB3 HG2 HG3 e0 e1 e2 e3
      go_wp2_with fail
      go_roundw
      case rel => exact ⟨k + 1, by omega, by go_num, HB4, HG4⟩
      case measure => (simp [intOf] <;> omega)
    · obtain rfl : k = m := by omega
      rw [List.take_of_length_le (by rw [HM.out]; exact Nat.le_refl _)] at HBL
      have HSTR := Lib.hid (Tryz.Builder_String_any_k b b _ wr (Lib.IsBuilderF.of HBL.out) (by have := HG.out.size; rw [HBB.out] at this; exact this))
      go_wp2_with fail
      refine HSTR.out.mono ?_
      rintro e w7 ⟨rfl, -, hbe7, -⟩
      have HG7 : Hid (w.grownBy w7 none) := Lib.hid (below_gb (Below.trans2 (gb_below HG.out) (by rw [HBB.out]; exact hbe7)))
      clear hbe7
      go_wp2_with fail
      go_ret
      exact ⟨⟨_, rfl, rfl⟩, HG7.out⟩
end Go.Proofs.YthclkbaankjbiaaGreatDoor
namespace Go.Proofs.YthclkbaankjbiaaGreatDoor
open Go.RowKit

def tokVI (t : TokI) : List Value := [.int .i64 t.kind, strV t.lead, strV t.text, .int .i64 t.pos]
def intsV (l : List Int) : List Value := l.map (Value.int .i64)
def ndV (K : Nat → Option Addr × Nat) (i : Nat) (x : Nd) : List Value := [.int .i64 x.kind, .int .i64 x.tok, .slice (K i).1 x.kids.length (K i).2]
def ndsV (K : Nat → Option Addr × Nat) (N : List Nd) : List (List Value) := N.mapIdx (ndV K)
def toksV (T : List TokI) : List (List Value) := T.map tokVI

def KidsAt (w : World) (N : List Nd) (K : Nat → Option Addr × Nat) : Prop := ∀ (i : Nat) (x : Nd), N[i]? = some x → VAt w (K i).1 (intsV x.kids)
def NodesAt (w : World) (p : Option Addr) (N : List Nd) (K : Nat → Option Addr × Nat) : Prop := GAt 3 w p (ndsV K N) ∧ KidsAt w N K
def ToksAt (w : World) (p : Option Addr) (T : List TokI) : Prop := GAt 4 w p (toksV T)

theorem NodesAt.kept {w w' : World} {p : Option Addr} {N : List Nd} {K : Nat → Option Addr × Nat} (h : NodesAt w p N K) (hg : w.grownBy w' none) : NodesAt w' p N K := ⟨h.1.kept hg, fun i x hx => (h.2 i x hx).kept hg⟩
theorem ToksAt.kept {w w' : World} {p : Option Addr} {T : List TokI} (h : ToksAt w p T) (hg : w.grownBy w' none) : ToksAt w' p T := GAt.kept h hg

theorem intsV_len (l : List Int) : (intsV l).length = l.length := List.length_map _
theorem intsV_one (l : List Int) : ∀ u ∈ intsV l, u.oneCell' = true := fun u hu => by obtain ⟨x, -, rfl⟩ := List.mem_map.1 hu; rfl
theorem intsV_append (a b : List Int) : intsV (a ++ b) = intsV a ++ intsV b := List.map_append
theorem intsV_get {l : List Int} {j : Nat} {x : Int} (h : l[j]? = some x) : (intsV l)[j]? = some (.int .i64 x) := by unfold intsV; rw [List.getElem?_map, h]; rfl

/-- A node's cells. -/
theorem node_at {w : World} {p : Option Addr} {N : List Nd} {K : Nat → Option Addr × Nat} (h : NodesAt w p N K) {n : Nat} {x : Nd} (hx : N[n]? = some x) : ∃ g off, p = some ⟨g, off, none⟩ ∧ g < w.heap.size ∧
    w.cell? ⟨g, off + n * 3, none⟩ = some (.int .i64 x.kind) ∧ w.cell? ⟨g, off + n * 3 + 1, none⟩ = some (.int .i64 x.tok) ∧ w.cell? ⟨g, off + n * 3 + 2, none⟩ = some (.slice (K n).1 x.kids.length (K n).2) := by
  have h1 : (ndsV K N)[n]? = some (ndV K n x) := by unfold ndsV; rw [List.getElem?_mapIdx, hx]; rfl
  obtain ⟨g, off, rfl, hl, hc⟩ := h.1.resolve_left (fun h0 => by rw [h0] at h1; simp at h1)
  exact ⟨g, off, rfl, hl, hc n _ h1 0 _ rfl, hc n _ h1 1 _ rfl, hc n _ h1 2 _ rfl⟩

theorem tok_at {w : World} {p : Option Addr} {T : List TokI} (h : ToksAt w p T) {n : Nat} {t : TokI} (hx : T[n]? = some t) : ∃ g off, p = some ⟨g, off, none⟩ ∧ g < w.heap.size ∧
    w.cell? ⟨g, off + n * 4, none⟩ = some (.int .i64 t.kind) ∧ w.cell? ⟨g, off + n * 4 + 1, none⟩ = some (strV t.lead) ∧ w.cell? ⟨g, off + n * 4 + 2, none⟩ = some (strV t.text) ∧ w.cell? ⟨g, off + n * 4 + 3, none⟩ = some (.int .i64 t.pos) := by
  have h1 : (toksV T)[n]? = some (tokVI t) := by unfold toksV; rw [List.getElem?_map, hx]; rfl
  obtain ⟨g, off, rfl, hl, hc⟩ := Or.resolve_left h (fun h0 => by rw [h0] at h1; simp at h1)
  exact ⟨g, off, rfl, hl, hc n _ h1 0 _ rfl, hc n _ h1 1 _ rfl, hc n _ h1 2 _ rfl, hc n _ h1 3 _ rfl⟩

/-- A kid's cell. -/
theorem kid_at {w : World} {p : Option Addr} {l : List Int} (h : VAt w p (intsV l)) {j : Nat} {x : Int} (hx : l[j]? = some x) : ∃ g off, p = some ⟨g, off, none⟩ ∧ g < w.heap.size ∧ w.cell? ⟨g, off + j, none⟩ = some (.int .i64 x) := by
  have h1 := intsV_get hx
  obtain ⟨g, off, rfl, hl, hc⟩ := h.resolve_left (fun h0 => by rw [h0] at h1; simp at h1)
  exact ⟨g, off, rfl, hl, hc j _ h1⟩

theorem infoI : (Tryz.prog.info? 3).map (fun i => (i.zero, i.size, i.bytes)) = some (some (.int .i64 0), 1, 8) := by kernel_rfl

def sliceOf (l : List Int) (w : World) (e : Ending) (w' : World) : Prop := w.grownBy w' none ∧ ∃ p c, e = .returned (.slice p l.length c) ∧ VAt w' p (intsV l)
end Go.Proofs.YthclkbaankjbiaaGreatDoor
