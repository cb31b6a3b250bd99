/- Lemmas. -/
import Derived.LoopIn
import Derived.LoopNIn
import Derived.Maps.OwnIn
import Derived.RangeFuncBound
import Derived.RangeFuncNested
import Derived.Shelf.RegionOpen
import Derived.Test.YtddccnpohpaofaaGreatDoorP2
import Derived.Test.YtddccnpohpaofaaGreatDoorP51
set_option linter.unusedVariables false
set_option linter.unusedSimpArgs false
namespace Go.Proofs.YtddccnpohpaofaaGreatDoor
open Go.RowKit

def ValPost (v : Value) (w : World) (e : Ending) (w' : World) : Prop := e = .returned v ∧ w.grownBy w' none

set_option maxRecDepth 100000 in
theorem Clone_c (s : ByteArray) (w : World) (hlim : s.size ≤ 281474976710656) : Calls Tryz.prog 64 #[.string s] w (ValPost (.string s) w) := by
  have H := Lib.hid (Tryz.stringslite_Clone s w hlim)
  go_enter Tryz.func64, Tryz.ntmps64
  go_wp2_with fail
  refine H.out.mono ?_
  rintro e w1 ⟨rfl, hb⟩
  have HB := Lib.hid hb
  clear hb
  go_wp2_with fail
  go_ret
  exact ⟨rfl, below_gb HB.out⟩

/-- What Lex answers. -/
def LexPost (l : List UInt8) (w : World) (e : Ending) (w' : World) : Prop :=
  w.grownBy w' none ∧ if 65536 < l.length then e = .returned (.tuple #[.slice none 0 0, .agg #[.int .i64 11, .int .i64 0]])
    else if (allE l).2.1 ≠ 0 then e = .returned (.tuple #[.slice none 0 0, .agg #[.int .i64 ((allE l).2.1 : Nat), .int .i64 ((allE l).2.2 : Nat)]])
    else ∃ q c, e = .returned (.tuple #[.slice q (allE l).1.length c, .agg #[.int .i64 0, .int .i64 0]]) ∧ TAt w' q (allE l).1 ∧ (allE l).1.length ≤ c ∧ c ≤ maxLen

theorem tok_parts (s : ByteArray) {p : Nat} (hp : p ≤ s.size) : ∃ a k z, sk false (s.data.toList.drop p) = a ∧ firstE (s.data.toList.drop (p + a)) = (k, z) ∧ k ≤ 5 ∧ p + a + z ≤ s.size ∧ stepE (s.data.toList.drop p) = a + z ∧
    tokE (s.data.toList.drop p) p = ⟨k, (s.extract p (p + a)).data.toList, (s.extract (p + a) (p + a + z)).data.toList, p + a⟩ := by
  obtain ⟨a, ha⟩ : ∃ a, sk false (s.data.toList.drop p) = a := ⟨_, rfl⟩
  obtain ⟨k, z, hkz⟩ : ∃ k z, firstE (s.data.toList.drop (p + a)) = (k, z) := ⟨_, _, rfl⟩
  have h1 := sk_le (s.data.toList.drop p) false
  have h2 := firstE_le (s.data.toList.drop (p + a))
  have h3 := (firstE_kind (s.data.toList.drop (p + a))).1
  rw [ha, List.length_drop, list_len] at h1
  rw [hkz] at h2 h3
  rw [List.length_drop, list_len] at h2
  simp only at h2 h3
  refine ⟨a, k, z, ha, hkz, h3, by omega, ?_, ?_⟩
  · unfold stepE; rw [ha, List.drop_drop, hkz]
  · unfold tokE; rw [ha, List.drop_drop, hkz, ext_take, ext_take]

theorem big_post {s : ByteArray} {w w' : World} {e : Ending} (hs : 65536 < s.size) (hg : w.grownBy w' none) (he : e = .returned (.tuple #[.slice none 0 0, .agg #[.int .i64 11, .int .i64 0]])) : LexPost s.data.toList w e w' := by
  refine ⟨hg, ?_⟩
  rw [list_len, if_pos hs]; exact he
theorem fault_post {s : ByteArray} {w w' : World} {e : Ending} {n p : Nat} (hs : ¬ 65536 < s.size) (hf : (allE s.data.toList).2 = (n, p)) (hn : n ≠ 0) (hg : w.grownBy w' none) (he : e = .returned (.tuple #[.slice none 0 0, .agg #[.int .i64 (n : Int), .int .i64 (p : Int)]])) : LexPost s.data.toList w e w' := by
  refine ⟨hg, ?_⟩
  rw [list_len, if_neg hs, hf, if_pos hn]; exact he
theorem done_post {s : ByteArray} {w w' : World} {e : Ending} {O : List Tok} {q : Option Addr} {c : Nat} (hs : ¬ 65536 < s.size) (hf : allE s.data.toList = (O, 0, 0)) (hg : w.grownBy w' none) (he : e = .returned (.tuple #[.slice q O.length c, .agg #[.int .i64 0, .int .i64 0]])) (ht : TAt w' q O) (h1 : O.length ≤ c) (h2 : c ≤ maxLen) : LexPost s.data.toList w e w' := by
  refine ⟨hg, ?_⟩
  rw [list_len, if_neg hs, hf, if_neg (by simp)]; exact ⟨q, c, he, ht, h1, h2⟩

set_option maxRecDepth 100000 in
set_option maxHeartbeats 8000000 in
theorem Lex_c (s : ByteArray) (w : World) (hs : s.size ≤ 1000000) (hla : LaidE w) : Calls Tryz.prog 38 #[.string s] w (LexPost s.data.toList w) := by
  by_cases hbig : 65536 < s.size
  · have d1 : decide ((65536 : Int) < (s.size : Int)) = true := decide_eq_true (by omega)
    have d1' : decide (65536 < s.size) = true := decide_eq_true hbig
    go_enter Tryz.func38, Tryz.ntmps38
    go_wp2_with fail
    refine bodyPost_ret (v := .tuple #[.slice none 0 0, .agg #[.int .i64 11, .int .i64 0]]) (by simp [results, Tryz.results38, go_sem]) rfl (big_post hbig (World.grownBy_alloc w _ _) rfl)
  · have d1 : decide ((65536 : Int) < (s.size : Int)) = false := decide_eq_false (by omega)
    have d1' : decide (65536 < s.size) = false := decide_eq_false hbig
    have HBIG := Lib.hid hbig
    have HLA := Lib.hid hla
    have HB0 := Lib.hid (heap_alloc_new w (.cells #[.int .i64 0, .int .i64 0] 44))
    have HGA := Lib.hid (World.grownBy_alloc w (.cells #[.int .i64 0, .int .i64 0] 44) none)
    clear hla
    go_enter Tryz.func38, Tryz.ntmps38
    go_wp2_with fail
    refine (Clone_c s _ (by omega)).mono ?_
    rintro e w0 ⟨rfl, hg0⟩
    have HG0 := Lib.hid (gb_trans HGA.out hg0)
    have HBX0 := Lib.hid (bx hg0 HB0.out)
    have HSZ0 : Hid (w.heap.size < w0.heap.size) := Lib.hid (by have := hg0.size; simp at this; omega)
    clear hg0 d1 d1' HB0 HGA
    go_wp2_with fail
    go_loopw [4, 5] (fun ov pv wr => ∃ (p : Nat) (O : List Tok), p ≤ s.size ∧ pv = .int .i64 p ∧ Hid (RestE s.data.toList O p) ∧ Hid (OwnT 98 wr w0.heap.size ov O) ∧ Hid (w0.grownBy wr none)) (fun _ pv _ => s.size - (intOf pv).toNat)
    case atStart => exact ⟨0, [], Nat.zero_le _, rfl, Lib.hid (RestE.start _), Lib.hid (OwnT.nil _ _ _), gb_refl _ _⟩
    case round =>
      obtain ⟨p, O, hp, rfl, HR, HO, HG⟩ := hrel
      obtain ⟨a, k, z, ha, hkz, hk5, hpz, hst, htk⟩ := tok_parts s hp
      have HLS := leadSize_c (s.extract p s.size) wr (by rw [ByteArray.size_extract]; omega)
      rw [ext_end s p _ rfl, ha] at HLS
      have HLE := Lib.hid HLS
      have HF := fun W (h : LaidE W) => first_c (s.extract (p + a) s.size) W (by rw [ByteArray.size_extract]; omega) h
      rw [ext_end s (p + a) _ rfl, hkz] at HF
      simp only at HF
      have HFI := Lib.hid HF
      have HW := Lib.hid (fun W => wrong_c k hk5 (s.extract (p + a) (p + a + z)) W (by rw [ByteArray.size_extract]; omega))
      obtain ⟨n, hn⟩ : ∃ n, wrongE k (s.extract (p + a) (p + a + z)).data.toList = n := ⟨_, rfl⟩
      rw [hn] at HW
      have HTK := Lib.hid htk; have HN := Lib.hid hn; have HST := Lib.hid hst
      have hw1 : IntKind.i64.wrap ((p : Int) + (a : Int)) = (p : Int) + (a : Int) := IntWalk.i64_in _ (by omega)
      have hw2 : IntKind.i64.wrap ((p : Int) + (a : Int) + (z : Int)) = (p : Int) + (a : Int) + (z : Int) := IntWalk.i64_in _ (by omega)
      clear ha hkz hst htk hn HLS HF
      go_wp2_with fail
      refine HLE.out.mono ?_
      rintro e w1 ⟨rfl, hg1⟩
      have HG1 := Lib.hid (gb_trans HG.out hg1)
      have HO1 := Lib.hid (HO.out.kept hg1)
      clear hg1
      go_wp2_with fail
      refine (HFI.out w1 (HLA.out.kept (gb_trans HG0.out HG1.out))).mono ?_
      rintro e w2 ⟨rfl, rfl⟩
      go_wp2_with fail
      refine (HW.out w1).mono ?_
      rintro e w2 ⟨rfl, rfl⟩
      clear HLE HFI HW HG HO
      by_cases hn0 : n = 0
      · subst hn0
        have HLN : Hid (O.length ≤ 1000000) := Lib.hid (by have := HR.out.2.1; omega)
        have HTV : Hid (tokV (tokE (s.data.toList.drop p) p) = [.int .i64 (k : Int), .string (s.extract p (p + a)), .string (s.extract (p + a) (p + a + z)), .int .i64 ((p : Int) + (a : Int))]) := Lib.hid (by rw [HTK.out]; rfl)
        by_cases hk : k = 5
        · subst hk
          have HAL : Hid (allE s.data.toList = (O ++ [tokE (s.data.toList.drop p) p], 0, 0)) := Lib.hid (HR.out.done (by rw [HTK.out]; exact HN.out) (by rw [HTK.out]))
          go_wp2_with (at_builtin; go_loud (refine wpList_appT (t := 39) (T := 98) Tryz.underlying39 infoT rfl (by omega) rfl _ _ rfl w0.heap.size O (tokE (s.data.toList.drop p) p) _ _ _ _ HTV.out u4 rfl HO1.out _ rfl rfl HLN.out HG1.out.size ?_))
          intro g' cap' w6 hO6 hB6
          have HO6 := Lib.hid hO6
          have HG6 : Hid (w0.grownBy w6 none) := Lib.hid (below_gb (Below.trans2 (gb_below HG1.out) hB6))
          clear hO6 hB6 HO1
          obtain ⟨q, c, hq, hqt, hc1, hc2, hqb⟩ := HO6.out.is
          injection hq with hq1 hq2 hq3
          subst hq1; subst hq3
          rw [List.length_append, List.length_singleton] at hc1
          have HQT := Lib.hid hqt; have HC := Lib.hid hc1; have HC2 := Lib.hid hc2; have HQB := Lib.hid hqb
          have HLL : Hid ((O ++ [tokE (s.data.toList.drop p) p]).length = O.length + 1) := Lib.hid (by simp)
          have HBX := Lib.hid (bx HG6.out HBX0.out)
          obtain ⟨c0, c1, cf⟩ := cells2 HBX.out
          clear hqt hc1 hc2 hqb hq2
          go_wp2_with fail
          have hlt6 : w.heap.size < w6.heap.size := by have := HSZ0.out; have := HG6.out.size; omega
          have hne : ∀ a, some (⟨g', 0, none⟩ : Addr) = some a → w.heap.size < a.block := fun a ha => by
            have := HQB.out (by simp) a ha; have := HSZ0.out; omega
          refine bodyPost_ret (v := .tuple #[.slice (some ⟨g', 0, none⟩) (O.length + 1) cap', .agg #[.int .i64 0, .int .i64 0]]) (by simp [results, Tryz.results38, go_sem, c0, c1]) rfl ?_
          rw [← HLL.out]
          refine done_post HBIG.out HAL.out ?_ rfl ?_ ?_ HC2.out
          · exact below_gb (((gb_below (gb_trans HG0.out HG6.out)).setCell (by simp) _).setCell (by simp) _)
          · exact (HQT.out.setBox (fun _ => hne) _ _).setBox (fun _ => hne) _ _
          · rw [HLL.out]; exact HC.out
        · have d5 : ((k : Int) == 5) = false := beq_eq_false_iff_ne.2 (by omega)
          obtain ⟨hr2, hpos⟩ := HR.out.more (by rw [HTK.out]; exact HN.out) (by rw [HTK.out]; exact hk)
          rw [HST.out] at hr2 hpos
          have HR2 := Lib.hid hr2
          clear hr2
          go_wp2_with (at_builtin; go_loud (refine wpList_appT (t := 39) (T := 98) Tryz.underlying39 infoT rfl (by omega) rfl _ _ rfl w0.heap.size O (tokE (s.data.toList.drop p) p) _ _ _ _ HTV.out u4 rfl HO1.out _ rfl rfl HLN.out HG1.out.size ?_))
          intro g' cap' w6 hO6 hB6
          have HO6 := Lib.hid hO6
          have HG6 : Hid (w0.grownBy w6 none) := Lib.hid (below_gb (Below.trans2 (gb_below HG1.out) hB6))
          clear hO6 hB6 HO1
          go_wp2_with fail
          go_roundw
          case rel => exact ⟨p + (a + z), _, by omega, val_of (by omega), HR2, HO6, HG6⟩
          case measure => (simp [intOf] <;> omega)
      · have d1 : ((n : Int) == 0) = false := beq_eq_false_iff_ne.2 (by omega)
        have d2 : ((n : Int) != 0) = true := by rw [bne, d1]; rfl
        have HFA : Hid ((allE s.data.toList).2 = (n, p + a)) := Lib.hid (by
          have := HR.out.fault (by rw [HTK.out]; simp only; rw [HN.out]; exact hn0)
          rw [HTK.out] at this
          simp only at this
          rw [HN.out] at this; exact this)
        have HBX := Lib.hid (bx HG1.out HBX0.out)
        obtain ⟨c0, c1, cf⟩ := cells2 HBX.out
        go_wp2_with fail
        refine bodyPost_ret (v := .tuple #[.slice none 0 0, .agg #[.int .i64 (n : Int), .int .i64 ((p : Int) + (a : Int))]]) (by simp [results, Tryz.results38, go_sem, c0, c1]) rfl (fault_post (p := p + a) HBIG.out HFA.out hn0 ?_ rfl)
        exact below_gb (((gb_below (gb_trans HG0.out HG1.out)).setCell (by simp) _).setCell (by simp) _)

def wholeL (l : List Tok) : List UInt8 := l.flatMap fun t => t.lead ++ t.text

theorem wholeL_append (l r : List Tok) : wholeL (l ++ r) = wholeL l ++ wholeL r := by unfold wholeL; rw [List.flatMap_append]
theorem wholeL_next {l : List Tok} {k : Nat} {t : Tok} (h : l[k]? = some t) : wholeL (l.take (k + 1)) = wholeL (l.take k) ++ t.lead ++ t.text := by
  rw [List.take_add_one, h, wholeL_append]; simp [wholeL]
theorem wholeL_take (l : List Tok) (k : Nat) : (wholeL (l.take k)).length ≤ (wholeL l).length := by
  have h1 : wholeL l = wholeL (l.take k) ++ wholeL (l.drop k) := by rw [← wholeL_append, List.take_append_drop]
  rw [h1, List.length_append]; omega

theorem strCells_mk (x : List UInt8) : Lib.strCells ⟨x.toArray⟩ = Lib.byteCells x := rfl


def tokVI (t : TokI) : List Value := [.int .i64 t.kind, strV t.lead, strV t.text, .int .i64 t.pos]
def intsV (l : List Int) : List Value := l.map (Value.int .i64)
def ndV (K : Nat → Option Addr × Nat) (i : Nat) (x : Nd) : List Value := [.int .i64 x.kind, .int .i64 x.tok, .slice (K i).1 x.kids.length (K i).2]
def ndsV (K : Nat → Option Addr × Nat) (N : List Nd) : List (List Value) := N.mapIdx (ndV K)
def toksV (T : List TokI) : List (List Value) := T.map tokVI

def KidsAt (w : World) (N : List Nd) (K : Nat → Option Addr × Nat) : Prop := ∀ (i : Nat) (x : Nd), N[i]? = some x → VAt w (K i).1 (intsV x.kids)
def NodesAt (w : World) (p : Option Addr) (N : List Nd) (K : Nat → Option Addr × Nat) : Prop := GAt 3 w p (ndsV K N) ∧ KidsAt w N K
def ToksAt (w : World) (p : Option Addr) (T : List TokI) : Prop := GAt 4 w p (toksV T)

theorem NodesAt.kept {w w' : World} {p : Option Addr} {N : List Nd} {K : Nat → Option Addr × Nat} (h : NodesAt w p N K) (hg : w.grownBy w' none) : NodesAt w' p N K := ⟨h.1.kept hg, fun i x hx => (h.2 i x hx).kept hg⟩
theorem ToksAt.kept {w w' : World} {p : Option Addr} {T : List TokI} (h : ToksAt w p T) (hg : w.grownBy w' none) : ToksAt w' p T := GAt.kept h hg

theorem intsV_len (l : List Int) : (intsV l).length = l.length := List.length_map _
theorem intsV_one (l : List Int) : ∀ u ∈ intsV l, u.oneCell' = true := fun u hu => by obtain ⟨x, -, rfl⟩ := List.mem_map.1 hu; rfl
theorem intsV_append (a b : List Int) : intsV (a ++ b) = intsV a ++ intsV b := List.map_append
theorem intsV_get {l : List Int} {j : Nat} {x : Int} (h : l[j]? = some x) : (intsV l)[j]? = some (.int .i64 x) := by unfold intsV; rw [List.getElem?_map, h]; rfl

/-- A node's cells. -/
theorem node_at {w : World} {p : Option Addr} {N : List Nd} {K : Nat → Option Addr × Nat} (h : NodesAt w p N K) {n : Nat} {x : Nd} (hx : N[n]? = some x) : ∃ g off, p = some ⟨g, off, none⟩ ∧ g < w.heap.size ∧
    w.cell? ⟨g, off + n * 3, none⟩ = some (.int .i64 x.kind) ∧ w.cell? ⟨g, off + n * 3 + 1, none⟩ = some (.int .i64 x.tok) ∧ w.cell? ⟨g, off + n * 3 + 2, none⟩ = some (.slice (K n).1 x.kids.length (K n).2) := by
  have h1 : (ndsV K N)[n]? = some (ndV K n x) := by unfold ndsV; rw [List.getElem?_mapIdx, hx]; rfl
  obtain ⟨g, off, rfl, hl, hc⟩ := h.1.resolve_left (fun h0 => by rw [h0] at h1; simp at h1)
  exact ⟨g, off, rfl, hl, hc n _ h1 0 _ rfl, hc n _ h1 1 _ rfl, hc n _ h1 2 _ rfl⟩

theorem tok_at {w : World} {p : Option Addr} {T : List TokI} (h : ToksAt w p T) {n : Nat} {t : TokI} (hx : T[n]? = some t) : ∃ g off, p = some ⟨g, off, none⟩ ∧ g < w.heap.size ∧
    w.cell? ⟨g, off + n * 4, none⟩ = some (.int .i64 t.kind) ∧ w.cell? ⟨g, off + n * 4 + 1, none⟩ = some (strV t.lead) ∧ w.cell? ⟨g, off + n * 4 + 2, none⟩ = some (strV t.text) ∧ w.cell? ⟨g, off + n * 4 + 3, none⟩ = some (.int .i64 t.pos) := by
  have h1 : (toksV T)[n]? = some (tokVI t) := by unfold toksV; rw [List.getElem?_map, hx]; rfl
  obtain ⟨g, off, rfl, hl, hc⟩ := Or.resolve_left h (fun h0 => by rw [h0] at h1; simp at h1)
  exact ⟨g, off, rfl, hl, hc n _ h1 0 _ rfl, hc n _ h1 1 _ rfl, hc n _ h1 2 _ rfl, hc n _ h1 3 _ rfl⟩

/-- A kid's cell. -/
theorem kid_at {w : World} {p : Option Addr} {l : List Int} (h : VAt w p (intsV l)) {j : Nat} {x : Int} (hx : l[j]? = some x) : ∃ g off, p = some ⟨g, off, none⟩ ∧ g < w.heap.size ∧ w.cell? ⟨g, off + j, none⟩ = some (.int .i64 x) := by
  have h1 := intsV_get hx
  obtain ⟨g, off, rfl, hl, hc⟩ := h.resolve_left (fun h0 => by rw [h0] at h1; simp at h1)
  exact ⟨g, off, rfl, hl, hc j _ h1⟩

theorem infoI : (Tryz.prog.info? 3).map (fun i => (i.zero, i.size, i.bytes)) = some (some (.int .i64 0), 1, 8) := by kernel_rfl


def okB (n : Nat) (l : List Int) : Bool := l.all fun k => decide (0 ≤ k ∧ k < (n : Int))
theorem okB_true {n : Nat} {l : List Int} (h : ∀ k ∈ l, 0 ≤ k ∧ k < (n : Int)) : okB n l = true := by
  unfold okB; rw [List.all_eq_true]; exact fun k hk => decide_eq_true (h k hk)
theorem okB_false {n : Nat} {l : List Int} {j : Nat} {x : Int} (hx : l[j]? = some x) (h : ¬ (0 ≤ x ∧ x < (n : Int))) : okB n l = false := by
  unfold okB; rw [List.all_eq_false]; exact ⟨x, List.mem_of_getElem? hx, by simpa using h⟩
set_option maxRecDepth 100000 in
set_option maxHeartbeats 4000000 in
theorem eachBelow_c (n : Nat) (l : List Int) (p : Option Addr) (c : Nat) (w : World) (hn : n ≤ 1000000) (hl : l.length ≤ 1000000) (h : VAt w p (intsV l)) :
    Calls Tryz.prog 71 #[.int .i64 (n : Int), .slice p l.length c] w (ValPost (.bool (okB n l)) w) := by
  obtain ⟨m, hm⟩ : ∃ m, l.length = m := ⟨_, rfl⟩
  have HM := Lib.hid hm
  have HV := Lib.hid h
  rw [hm] at hl ⊢
  clear hm h
  go_enter Tryz.func71, Tryz.ntmps71
  go_wp2_with fail
  go_loopw [9] (fun v wr => ∃ k : Nat, k ≤ m ∧ v = .int .i64 k ∧ wr = w ∧ Hid (∀ (j : Nat) (x : Int), j < k → l[j]? = some x → 0 ≤ x ∧ x < (n : Int))) (fun v _ => m - (intOf v).toNat)
  case atStart => exact ⟨0, Nat.zero_le _, rfl, rfl, Lib.hid (fun j x h => by omega)⟩
  case round =>
    obtain ⟨k, hk, rfl, rfl, HK⟩ := hrel
    by_cases hlt : k < m
    · have d1 : decide ((k : Int) < (m : Int)) = true := decide_eq_true (by omega)
      have d1' : decide (k < m) = true := decide_eq_true hlt
      obtain ⟨x, hx⟩ : ∃ x, l[k]? = some x := ⟨l[k]'(by rw [HM.out]; exact hlt), List.getElem?_eq_getElem _⟩
      obtain ⟨g, off, rfl, hgl, c0⟩ := kid_at HV.out hx
      have HX := Lib.hid hx
      clear hx
      by_cases h0 : x < 0
      · have d2 : decide (x < 0) = true := decide_eq_true h0
        go_wp2_with fail
        go_ret
        exact ⟨by rw [okB_false HX.out (by omega)]; rfl, gb_refl _ _⟩
      · have d2 : decide (x < 0) = false := decide_eq_false h0
        by_cases h1 : (n : Int) ≤ x
        · have d3 : decide ((n : Int) ≤ x) = true := decide_eq_true h1
          go_wp2_with fail
          go_ret
          exact ⟨by rw [okB_false HX.out (by omega)]; rfl, gb_refl _ _⟩
        · have d3 : decide ((n : Int) ≤ x) = false := decide_eq_false h1
          go_wp2_with fail
          go_roundw
          case rel => exact ⟨k + 1, by omega, by go_num, by first | rfl | trivial, Lib.hid (fun j y hj hy => by
            by_cases e : j = k
            · subst e; rw [HX.out] at hy; cases hy; omega
            · exact HK.out j y (by omega) hy)⟩
          case measure => (simp [intOf] <;> omega)
    · obtain rfl : k = m := by omega
      go_wp2_with fail
      go_ret
      exact ⟨by rw [okB_true fun y hy => by
        obtain ⟨j, hj⟩ := List.getElem?_of_mem hy
        have := (List.getElem?_eq_some_iff.1 hj).1
        rw [HM.out] at this
        exact HK.out j y this hj]; rfl, gb_refl _ _⟩


section
variable {w w' : World} {g M : Nat} {f : Nat → Value}
end

set_option maxRecDepth 100000 in
theorem Root_c (pt pn : Option Addr) (mt ct M cn : Nat) (hM : 0 < M) (hM2 : M ≤ 1000000) (w : World) :
    Calls Tryz.prog 22 #[.agg #[.slice pt mt ct, .slice pn M cn]] w (ValPost (.int .i64 ((M - 1 : Nat) : Int)) w) := by
  have hw1 : IntKind.i64.wrap ((M : Int) - 1) = ((M - 1 : Nat) : Int) := by rw [IntWalk.i64_in _ (by omega)]; omega
  go_enter Tryz.func22, Tryz.ntmps22
  go_wp2_with fail
  go_ret
  exact ⟨rfl, World.grownBy_alloc w _ none⟩

end Go.Proofs.YtddccnpohpaofaaGreatDoor
namespace Go.Proofs.YtddccnpohpaofaaGreatDoor
open Go.RowKit

theorem OwnG.keptF {S : Nat → Prop} {s : Nat} {T : TypeId} {w w' : World} {base : Nat} {v : Value} {l : List (List Value)} (h : OwnG s T w base v l) (hf : Fr2 S w w') (hS : ∀ k, v.ownBlock = some k → ¬ S k) : OwnG s T w' base v l :=
  ⟨⟨h.1.1, h.1.2.imp id fun ⟨g, cap, cur, e, hb, hh, r⟩ => ⟨g, cap, cur, e, hb, hf.keep hh (hS g (by rw [e]; rfl)), r⟩⟩, h.2⟩
theorem OwnG.at {s : Nat} {T : TypeId} {w : World} {base : Nat} {v : Value} {l : List (List Value)} (h : OwnG s T w base v l) : ∀ k, v.ownBlock = some k → base ≤ k ∧ k < w.heap.size := h.1.lt

section
variable {s : Nat} {t T : TypeId} {z : Value} {by' : Nat}

/-- append of one struct: where the new slice lies. -/
theorem wpList_appGl (hs0 : 0 < s) (ht : Tryz.prog.underlying t = some (.slice T)) (hT : (Tryz.prog.info? T).map (fun i => (i.zero, i.size, i.bytes)) = some (some z, s, by')) (hz : z.cells.size = s) (hby : by' ≤ 1000)
    {W : World} {ops : Array Oper} {rest : List Oper} {o : Oper} {a : Act} {Q : Exit → Act → World → Prop} (hgd : o.guard = none) (os ox : Operand) (ho : o.op = .call { callee := .builtin .append, args := #[os, ox], argTypes := #[t, t] })
    (base : Nat) (l : List (List Value)) (y : List Value) (hys : y.length = s) (hy1 : ∀ u ∈ y, u.oneCell' = true) (v : Value) (hs : a.eval os = v) (hown : OwnG s T W base v l) (H : Nat) (arr : Array Value) (harr : arr = y.toArray) (hblk : W.heap[H]? = some (.cells arr T (0, 0))) (hx : a.eval ox = .slice (some ⟨H, 0, none⟩) 1 1) (hn : l.length ≤ 1000000) (hbase : base ≤ W.heap.size) (H' : Nat) (hH' : W.heap.size = H')
    (K : ∀ g' cap' w', OwnG s T w' base (.slice (some ⟨g', 0, none⟩) (l.length + 1) cap') (l ++ [y]) → W.grownBy w' v.ownBlock → (v.ownBlock = some g' ∨ g' = H') → wpList Tryz.prog ops Q rest (a.put o.dst (.slice (some ⟨g', 0, none⟩) (l.length + 1) cap')) w') :
    wpList Tryz.prog ops Q (o :: rest) a W := by
  subst harr
  obtain ⟨i0, hi, hi0, hi1, hi2⟩ := info_parts hT
  have hb : (l.length + 1) * by' ≤ 140737488355328 := by
    have : (l.length + 1) * by' ≤ (l.length + 1) * 1000 := Nat.mul_le_mul_left _ hby
    omega
  refine wpList_append_lies (P := Tryz.prog) W hgd os ox t ho base T i0 z s by' ht hi hi0 hi1 hi2 hz hs0 v l.length l.flatten hs hown.1 ⟨H, 0, none⟩ 1 1 y hx (by omega) ?_ hy1 (by omega) (by unfold maxLen; omega) hb hbase H' hH' ?_
  · intro j u hj
    rw [Addr.add_lit, cell_of_row _ H _ _ _ (0, 0) hblk]
    rw [Nat.zero_add, List.getElem?_toArray]; exact hj
  · intro g' cap' w' h3 h4 h5 _
    refine K g' cap' w' ⟨by simpa using h3, fun q hq => ?_⟩ h4 h5
    rcases List.mem_append.1 hq with hq | hq
    · exact hown.2 q hq
    · simp at hq; subst hq; exact ⟨hys, hy1⟩

/-- The same at a step of a region that draws its order. -/
theorem step_appGl (hs0 : 0 < s) (ht : Tryz.prog.underlying t = some (.slice T)) (hT : (Tryz.prog.info? T).map (fun i => (i.zero, i.size, i.bytes)) = some (some z, s, by')) (hz : z.cells.size = s) (hby : by' ≤ 1000)
    {W : World} {ops : Array Oper} {o : Oper} {a : Act} {K : Act → World → Prop} {Q : Exit → Act → World → Prop} {E : Prop} (hgd : o.guard = none) (os ox : Operand) (ho : o.op = .call { callee := .builtin .append, args := #[os, ox], argTypes := #[t, t] })
    (base : Nat) (l : List (List Value)) (y : List Value) (hys : y.length = s) (hy1 : ∀ u ∈ y, u.oneCell' = true) (v : Value) (hs : a.eval os = v) (hown : OwnG s T W base v l) (H : Nat) (arr : Array Value) (harr : arr = y.toArray) (hblk : W.heap[H]? = some (.cells arr T (0, 0))) (hx : a.eval ox = .slice (some ⟨H, 0, none⟩) 1 1) (hn : l.length ≤ 1000000) (hbase : base ≤ W.heap.size) (H' : Nat) (hH' : W.heap.size = H')
    (K' : ∀ g' cap' w', OwnG s T w' base (.slice (some ⟨g', 0, none⟩) (l.length + 1) cap') (l ++ [y]) → W.grownBy w' v.ownBlock → (v.ownBlock = some g' ∨ g' = H') → K (a.put o.dst (.slice (some ⟨g', 0, none⟩) (l.length + 1) cap')) w') :
    if Region.wanted o (yielded ops a.tmps) = true then Oper.wp Tryz.prog o a W K Q else E := by
  subst harr
  obtain ⟨i0, hi, hi0, hi1, hi2⟩ := info_parts hT
  have hb : (l.length + 1) * by' ≤ 140737488355328 := by
    have : (l.length + 1) * by' ≤ (l.length + 1) * 1000 := Nat.mul_le_mul_left _ hby
    omega
  refine step_append_lies (P := Tryz.prog) W hgd os ox t ho base T i0 z s by' ht hi hi0 hi1 hi2 hz hs0 v l.length l.flatten hs hown.1 ⟨H, 0, none⟩ 1 1 y hx (by omega) ?_ hy1 (by omega) (by unfold maxLen; omega) hb hbase H' hH' ?_
  · intro j u hj
    rw [Addr.add_lit, cell_of_row _ H _ _ _ (0, 0) hblk]
    rw [Nat.zero_add, List.getElem?_toArray]; exact hj
  · intro g' cap' w' h3 h4 h5 _
    refine K' g' cap' w' ⟨by simpa using h3, fun q hq => ?_⟩ h4 h5
    rcases List.mem_append.1 hq with hq | hq
    · exact hown.2 q hq
    · simp at hq; subst hq; exact ⟨hys, hy1⟩
end

/-- A list of ints of one's own. -/
def OwnL (w : World) (base : Nat) (v : Value) (l : List Int) : Prop := OwnG 1 3 w base v (one (intsV l))

theorem OwnL.parts {w : World} {base : Nat} {v : Value} {l : List Int} (h : OwnL w base v l) : ∃ p c, v = .slice p l.length c ∧ VAt w p (intsV l) ∧ l.length ≤ c ∧ c ≤ maxLen ∧ (l ≠ [] → ∀ a, p = some a → base ≤ a.block) := by
  obtain ⟨p, c, e, h1, h2, h3, h4⟩ := OwnG.is h
  rw [one_len, intsV_len] at e h2
  exact ⟨p, c, e, v_of_g h1, h2, h3, fun hl => h4 (fun h0 => hl (by
    have := congrArg List.length h0
    rw [one_len, intsV_len] at this
    exact List.length_eq_zero_iff.1 this))⟩

theorem OwnL.nil (w : World) (base : Nat) : OwnL w base (.slice none 0 0) [] := OwnG.nil _ _ _ _
end Go.Proofs.YtddccnpohpaofaaGreatDoor
