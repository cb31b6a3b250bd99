/- Lemmas. -/
import Derived.Test.YtijpelkjeejjfaaGreatDoorP19
import Derived.Test.YtijpelkjeejjfaaGreatDoorP3
set_option linter.unusedVariables false
set_option linter.unusedSimpArgs false
namespace Go.Proofs.YtijpelkjeejjfaaGreatDoor
open Go.RowKit

theorem infoPc : (Tryz.prog.info? 94).map (fun i => (i.zero, i.size, i.bytes)) = some (some (.agg #[.string ⟨#[]⟩, .pointer none, .int .i64 0]), 3, 32) := by kernel_rfl
/-- The writer's box b holds rows of its own, in blocks from B on; none of its memory is of S, which is to be kept. -/
def WrAt (S : Nat → Prop) (B b : Nat) (w : World) (rows : List (List Value)) : Prop := ∃ v, w.heap[b]? = some (.cells #[v] 58 (0, 0)) ∧ OwnG 3 94 w B v rows ∧ b < B ∧ B ≤ w.heap.size ∧ ¬ S b ∧ (∀ k, v.ownBlock = some k → ¬ S k) ∧ ∀ k, S k → k < w.heap.size
def PcPost (S : Nat → Prop) (B b : Nat) (rows : List (List Value)) (w : World) (e : Ending) (w' : World) : Prop := e = .returned (.tuple #[]) ∧ WrAt S B b w' rows ∧ Fr2 (fun k => ¬ S k) w w'
theorem box1 {w : World} {b : Nat} {v u : Value} {T : TypeId} (h : w.heap[b]? = some (.cells #[v] T (0, 0))) : (w.setCell ⟨b, 0, none⟩ u).heap[b]? = some (.cells #[u] T (0, 0)) := (set_cells (i := 0) (u := u) h).trans rfl
theorem WrAt.put {S : Nat → Prop} {B b g9 cap9 n : Nat} {w w2 w9 : World} {v : Value} {rows rows' : List (List Value)} (hb : w.heap[b]? = some (.cells #[v] 58 (0, 0))) (hbB : b < B) (hB : B ≤ w.heap.size) (hO : OwnG 3 94 w B v rows) (hSb : ¬ S b) (hSv : ∀ k, v.ownBlock = some k → ¬ S k) (hSs : ∀ k, S k → k < w.heap.size) (h2 : w.grownBy w2 none) (h9 : w2.grownBy w9 v.ownBlock) (hl9 : v.ownBlock = some g9 ∨ w.heap.size ≤ g9) (hO9 : OwnG 3 94 w9 B (.slice (some ⟨g9, 0, none⟩) n cap9) rows') :
    WrAt S B b (w9.setCell ⟨b, 0, none⟩ (.slice (some ⟨g9, 0, none⟩) n cap9)) rows' ∧ Fr2 (fun k => ¬ S k) w (w9.setCell ⟨b, 0, none⟩ (.slice (some ⟨g9, 0, none⟩) n cap9)) := by
  have hne : v.ownBlock ≠ some b := fun e => by have := (hO.at b e).1; omega
  have hb2 := bx h2 hb
  have hb9 : w9.heap[b]? = some (.cells #[v] 58 (0, 0)) := (h9.block b (hlt hb2) (fun e => hne e.symm)).trans hb2
  have hf : Fr2 (fun k => k = b) w9 (w9.setCell ⟨b, 0, none⟩ (.slice (some ⟨g9, 0, none⟩) n cap9)) := Fr2.setCell (S := fun k => k = b) (Fr2.refl _ _) rfl _
  have hsz : w.heap.size ≤ (w9.setCell ⟨b, 0, none⟩ (.slice (some ⟨g9, 0, none⟩) n cap9)).heap.size := by have := h2.size; have := h9.size; have := hf.size; omega
  refine ⟨⟨_, box1 hb9, hO9.keptF hf (fun k hk e => by have := (hO9.at k hk).1; have e : k = b := e; omega), hbB, by omega, hSb, fun k hk hS => ?_, fun k hk => Nat.lt_of_lt_of_le (hSs k hk) hsz⟩, ?_⟩
  · have e : g9 = k := Option.some.inj (show some g9 = some k from hk)
    subst e
    rcases hl9 with h | h
    · exact hSv _ h hS
    · have := hSs _ hS; omega
  · refine (Fr2.none h2).trans ((Fr2.of h9 (fun k e => hSv k e)).trans (hf.mono (fun k e => ?_)))
    have e : k = b := e
    rw [e]; exact hSb
set_option maxRecDepth 100000 in
set_option maxHeartbeats 16000000 in
theorem put_c9 (S : Nat → Prop) (B b : Nat) (rows : List (List Value)) (s : ByteArray) (w : World) (h : WrAt S B b w rows) (hl : rows.length ≤ 1000000) :
    Calls Tryz.prog 35 #[.pointer (some ⟨b, 0, none⟩), .string s] w (PcPost S B b (rows ++ [[.string s, .pointer none, .int .i64 0]]) w) := by
  obtain ⟨v, hb, hO, hbB, hB, hSb, hSv, hSs⟩ := h
  have c0 : w.cell? ⟨b, 0, none⟩ = some v := by rw [cell_of_row w b 0 _ _ (0, 0) hb]; rfl
  have hbw := hlt hb
  obtain ⟨p, c, rfl, -⟩ := hO.is
  obtain ⟨n, hn⟩ : ∃ n, rows.length = n := ⟨_, rfl⟩
  have HN := Lib.hid hn
  have HB := Lib.hid hb; have HO := Lib.hid hO; have HBB := Lib.hid hbB; have HBS := Lib.hid hB; have HL := Lib.hid hl; have HSB := Lib.hid hSb; have HSV := Lib.hid hSv; have HSS := Lib.hid hSs
  have hbk := heap_alloc_new w (.cells #[.string s, .pointer none, .int .i64 0] 94)
  have hsa : (w.alloc (.cells #[.string s, .pointer none, .int .i64 0] 94)).heap.size = w.heap.size + 1 := by simp
  have HBK := Lib.hid hbk; have HSA := Lib.hid hsa
  have HG := Lib.hid (World.grownBy_alloc w (.cells #[.string s, .pointer none, .int .i64 0] 94) none)
  have HO2 := Lib.hid (HO.out.kept HG.out)
  clear hb hO hbB hB hSb hSv hSs hl hbk hsa hn
  go_enter Tryz.func35, Tryz.ntmps35
  go_wp2_with (at_builtin; go_loud (refine wpList_appGl (s := 3) (t := 56) (T := 94) (by decide) Tryz.underlying56 infoPc rfl (by omega) rfl _ _ rfl B rows [.string s, .pointer none, .int .i64 0] rfl (fun u hu => by simp at hu; rcases hu with rfl | rfl | rfl <;> rfl) (.slice p rows.length c) rfl HO2.out w.heap.size _ rfl HBK.out rfl HL.out (by rw [HSA.out]; have := HBS.out; omega) (w.heap.size + 1) HSA.out ?_))
  intro g9 cap9 w9 hO9 hg9 hl9
  have HP := Lib.hid (WrAt.put HB.out HBB.out HBS.out HO.out HSB.out HSV.out HSS.out HG.out hg9 (hl9.imp id (fun h => by omega)) hO9)
  have hbw9 : b < w9.heap.size := by have := hg9.size; rw [HSA.out] at this; omega
  have hb9 : w9.heap[b]? = some (.cells #[.slice p rows.length c] 58 (0, 0)) := by
    have hne : (Value.slice p rows.length c).ownBlock ≠ some b := fun e => by have := (HO.out.at b e).1; have := HBB.out; omega
    have h1 := bx HG.out HB.out
    exact (hg9.block b (hlt h1) (fun e => hne e.symm)).trans h1
  have cb9 : w9.cell? ⟨b, 0, none⟩ = some (.slice p rows.length c) := by rw [cell_of_row w9 b 0 _ _ (0, 0) hb9]; rfl
  have hfz : w9.frozen? ⟨b, 0, none⟩ = false := by simp [World.frozen?, hb9]
  clear hb9
  clear hO9 hg9 hl9
  go_wp2_with fail
  go_end0
  exact ⟨rfl, HP.out.1, HP.out.2⟩
set_option maxRecDepth 100000 in
set_option maxHeartbeats 16000000 in
theorem expr_c9 (S : Nat → Prop) (B b : Nat) (rows : List (List Value)) (a : Option Addr) (least : Int) (w : World) (h : WrAt S B b w rows) (hl : rows.length ≤ 1000000) :
    Calls Tryz.prog 39 #[.pointer (some ⟨b, 0, none⟩), .pointer a, .int .i64 least] w (PcPost S B b (rows ++ [[.string ⟨#[]⟩, .pointer a, .int .i64 least]]) w) := by
  obtain ⟨v, hb, hO, hbB, hB, hSb, hSv, hSs⟩ := h
  have c0 : w.cell? ⟨b, 0, none⟩ = some v := by rw [cell_of_row w b 0 _ _ (0, 0) hb]; rfl
  have hbw := hlt hb
  obtain ⟨p, c, rfl, -⟩ := hO.is
  obtain ⟨n, hn⟩ : ∃ n, rows.length = n := ⟨_, rfl⟩
  have HN := Lib.hid hn
  have HB := Lib.hid hb; have HO := Lib.hid hO; have HBB := Lib.hid hbB; have HBS := Lib.hid hB; have HL := Lib.hid hl; have HSB := Lib.hid hSb; have HSV := Lib.hid hSv; have HSS := Lib.hid hSs
  have hbk := heap_alloc_new w (.cells #[.string ⟨#[]⟩, .pointer a, .int .i64 least] 94)
  have hsa : (w.alloc (.cells #[.string ⟨#[]⟩, .pointer a, .int .i64 least] 94)).heap.size = w.heap.size + 1 := by simp
  have HBK := Lib.hid hbk; have HSA := Lib.hid hsa
  have HG := Lib.hid (World.grownBy_alloc w (.cells #[.string ⟨#[]⟩, .pointer a, .int .i64 least] 94) none)
  have HO2 := Lib.hid (HO.out.kept HG.out)
  clear hb hO hbB hB hSb hSv hSs hl hbk hsa hn
  go_enter Tryz.func39, Tryz.ntmps39
  go_wp2_with (at_builtin; go_loud (refine wpList_appGl (s := 3) (t := 56) (T := 94) (by decide) Tryz.underlying56 infoPc rfl (by omega) rfl _ _ rfl B rows [.string ⟨#[]⟩, .pointer a, .int .i64 least] rfl (fun u hu => by simp at hu; rcases hu with rfl | rfl | rfl <;> rfl) (.slice p rows.length c) rfl HO2.out w.heap.size _ rfl HBK.out rfl HL.out (by rw [HSA.out]; have := HBS.out; omega) (w.heap.size + 1) HSA.out ?_))
  intro g9 cap9 w9 hO9 hg9 hl9
  have HP := Lib.hid (WrAt.put HB.out HBB.out HBS.out HO.out HSB.out HSV.out HSS.out HG.out hg9 (hl9.imp id (fun h => by omega)) hO9)
  have hbw9 : b < w9.heap.size := by have := hg9.size; rw [HSA.out] at this; omega
  have hb9 : w9.heap[b]? = some (.cells #[.slice p rows.length c] 58 (0, 0)) := by
    have hne : (Value.slice p rows.length c).ownBlock ≠ some b := fun e => by have := (HO.out.at b e).1; have := HBB.out; omega
    have h1 := bx HG.out HB.out
    exact (hg9.block b (hlt h1) (fun e => hne e.symm)).trans h1
  have cb9 : w9.cell? ⟨b, 0, none⟩ = some (.slice p rows.length c) := by rw [cell_of_row w9 b 0 _ _ (0, 0) hb9]; rfl
  have hfz : w9.frozen? ⟨b, 0, none⟩ = false := by simp [World.frozen?, hb9]
  clear hb9
  clear hO9 hg9 hl9
  go_wp2_with fail
  go_end0
  exact ⟨rfl, HP.out.1, HP.out.2⟩

def rowB (l : List UInt8) : List Value := [strV l, .pointer none, .int .i64 0]
def rowX (g o : Nat) (least : Int) : List Value := [.string ⟨#[]⟩, .pointer (some ⟨g, o, none⟩), .int .i64 least]
/-- The rows of parts: what stands ahead, and the kid. -/
def partsR (g o : Nat) : Nat → List (List UInt8) → List (List Value)
  | _, [] => []
  | i, l :: A => rowB l :: rowX g (o + i * 8) 0 :: partsR g o (i + 1) A
theorem partsR_take (g o : Nat) : ∀ (A : List (List UInt8)) (i k : Nat) (l : List UInt8), A[k]? = some l → partsR g o i (A.take (k + 1)) = partsR g o i (A.take k) ++ [rowB l, rowX g (o + (i + k) * 8) 0]
  | [], i, k, l, h => by simp at h
  | x :: A, i, 0, l, h => by simp at h; subst h; simp [partsR]
  | x :: A, i, k + 1, l, h => by
    have := partsR_take g o A (i + 1) k l (by simpa using h)
    simp only [List.take_succ_cons, partsR, this, List.cons_append]
    rw [show i + 1 + k = i + (k + 1) by omega]
theorem partsR_len (g o : Nat) : ∀ (A : List (List UInt8)) (i : Nat), (partsR g o i A).length = 2 * A.length
  | [], i => rfl
  | x :: A, i => by simp only [partsR, List.length_cons, partsR_len g o A (i + 1)]; omega
set_option maxRecDepth 100000 in
set_option maxHeartbeats 16000000 in
theorem parts_c9 (S : Nat → Prop) (B b : Nat) (rows : List (List Value)) (fg fo gk ok kn ck gs os m cs : Nat) (A : List (List UInt8)) (w : World) (h : WrAt S B b w rows) (hl : rows.length ≤ 900000) (hA : A.length = m) (hm : m ≤ kn) (hk : kn ≤ 1000000) (hm9 : m ≤ 9)
    (c6 : w.cell? ⟨fg, fo + 6, none⟩ = some (.slice (some ⟨gk, ok, none⟩) kn ck)) (hSf : S fg) (hSs : S gs) (hs : ∀ (i : Nat) (l : List UInt8), A[i]? = some l → w.cell? ⟨gs, os + i, none⟩ = some (strV l)) :
    Calls Tryz.prog 83 #[.pointer (some ⟨b, 0, none⟩), .pointer (some ⟨fg, fo, none⟩), .slice (some ⟨gs, os, none⟩) m cs] w (PcPost S B b (rows ++ partsR gk ok 0 A) w) := by
  have HPUT := Lib.hid (fun rows s W h h2 => put_c9 S B b rows s W h h2)
  have HEXP := Lib.hid (fun rows a W h h2 => expr_c9 S B b rows a 0 W h h2)
  have HW := Lib.hid h; have HL := Lib.hid hl; have HA := Lib.hid hA; have HC6 := Lib.hid c6; have HS := Lib.hid hs; have HSF := Lib.hid hSf; have HSG := Lib.hid hSs
  have hbw : b < w.heap.size := by obtain ⟨v, hb, -⟩ := h; exact hlt hb
  have hfgw : fg < w.heap.size := by obtain ⟨v, -, -, -, -, -, -, hh⟩ := h; exact hh _ hSf
  have hgsw : gs < w.heap.size := by obtain ⟨v, -, -, -, -, -, -, hh⟩ := h; exact hh _ hSs
  have HBW := Lib.hid hbw; have HFW := Lib.hid hfgw; have HGW := Lib.hid hgsw
  have keep : ∀ W, Fr2 (fun k => ¬ S k) w W → W.cell? ⟨fg, fo + 6, none⟩ = some (.slice (some ⟨gk, ok, none⟩) kn ck) ∧ (∀ (i : Nat) (l : List UInt8), A[i]? = some l → W.cell? ⟨gs, os + i, none⟩ = some (strV l)) := fun W hf =>
    ⟨by rw [World.cell?_of_block (w := w) (hf.block fg hfgw (fun e => e hSf))]; exact c6, fun i l hi => by rw [World.cell?_of_block (w := w) (hf.block gs hgsw (fun e => e hSs))]; exact hs i l hi⟩
  have HKP := Lib.hid keep
  clear h hl hA c6 hs hSf hSs hbw hfgw hgsw keep
  go_enter Tryz.func83, Tryz.ntmps83
  go_wp2_with fail
  go_loopw [10] (fun iv wr => ∃ k : Nat, k ≤ m ∧ iv = .int .i64 k ∧ Hid (WrAt S B b wr (rows ++ partsR gk ok 0 (A.take k))) ∧ Hid (Fr2 (fun k => ¬ S k) w wr)) (fun iv _ => m - (intOf iv).toNat)
  case atStart => exact ⟨0, Nat.zero_le _, rfl, Lib.hid (by simpa [partsR] using HW.out), Lib.hid (Fr2.refl _ _)⟩
  case round =>
    obtain ⟨k, hkm, rfl, HWR, HF⟩ := hrel
    by_cases hlt : k < m
    · have y3 : decide ((k : Int) < (m : Int)) = true := decide_eq_true (by omega)
      have y4 : decide (k < m) = true := decide_eq_true hlt
      obtain ⟨l, hx⟩ : ∃ l, A[k]? = some l := ⟨A[k]'(by rw [HA.out]; exact hlt), List.getElem?_eq_getElem _⟩
      have HTK := Lib.hid (partsR_take gk ok A 0 k l hx)
      have ct := (HKP.out wr HF.out).2 k l hx
      have hgs : gs < wr.heap.size := Nat.lt_of_lt_of_le HGW.out HF.out.size
      unfold strV at ct
      have HLR : Hid ((rows ++ partsR gk ok 0 (A.take k)).length ≤ 900018) := Lib.hid (by rw [List.length_append, partsR_len, List.length_take]; have := HL.out; omega)
      clear hx
      go_wp2_with fail
      refine (HPUT.out _ _ wr HWR.out (by have := HLR.out; omega)).mono ?_
      rintro e w2 ⟨rfl, hw2, hf2⟩
      have HW2 := Lib.hid hw2; have HF2 := Lib.hid (HF.out.trans hf2)
      have c6 := (HKP.out w2 HF2.out).1
      have hfw : fg < w2.heap.size := Nat.lt_of_lt_of_le HFW.out HF2.out.size
      have z1 : (0 : Int) ≤ (k : Int) := by omega
      have z2 : (k : Int) < (kn : Int) := by omega
      have z3 : decide (k < kn) = true := decide_eq_true (by omega)
      clear hw2 hf2 ct
      go_wp2_with fail
      refine (HEXP.out _ _ w2 HW2.out (by have h := HLR.out; simp only [List.length_append, List.length_cons, List.length_nil] at h ⊢; omega)).mono ?_
      rintro e w3 ⟨rfl, hw3, hf3⟩
      have HF3 := Lib.hid (HF2.out.trans hf3)
      have HW3 : Hid (WrAt S B b w3 (rows ++ partsR gk ok 0 (A.take (k + 1)))) := Lib.hid (by
        rw [HTK.out, Nat.zero_add]
        simp only [List.append_assoc, List.cons_append, List.nil_append] at hw3 ⊢
        exact hw3)
      clear hw3 hf3 c6
      go_wp2_with fail
      go_roundw
      case rel => exact ⟨k + 1, by omega, by go_num, HW3, HF3⟩
      case measure => (simp [intOf] <;> omega)
    · obtain rfl : k = m := by omega
      have HWE : Hid (WrAt S B b wr (rows ++ partsR gk ok 0 A)) := Lib.hid (by
        have := HWR.out
        rwa [List.take_of_length_le (by rw [HA.out]; exact Nat.le_refl _)] at this)
      go_wp2_with fail
      go_end0
      exact ⟨rfl, HWE.out, HF.out⟩

/-- The rows of the first kids of a call, with what stands between. -/
def argsR (sep : List UInt8) (g o : Nat) : Nat → List (List Value)
  | 0 => []
  | k + 1 => argsR sep g o k ++ (if k = 0 then [] else [rowB sep]) ++ [rowX g (o + k * 8) 0]
theorem argsR_len (sep : List UInt8) (g o : Nat) : ∀ k, (argsR sep g o k).length ≤ 2 * k
  | 0 => Nat.le_refl _
  | k + 1 => by
    have := argsR_len sep g o k
    simp only [argsR, List.length_append, List.length_singleton]
    split <;> simp <;> omega
set_option maxRecDepth 100000 in
set_option maxHeartbeats 16000000 in
theorem kid_c9 (S : Nat → Prop) (B b cb : Nat) (rows : List (List Value)) (a : Option Addr) (w : World) (h : WrAt S B b w rows) (hl : rows.length ≤ 1000000) (hSc : S cb) (cc : w.cell? ⟨cb, 0, none⟩ = some (.pointer (some ⟨b, 0, none⟩))) :
    Calls Tryz.prog 118 #[.pointer a, .pointer (some ⟨cb, 0, none⟩)] w (PcPost S B b (rows ++ [[.string ⟨#[]⟩, .pointer a, .int .i64 0]]) w) := by
  have HEX := Lib.hid (expr_c9 S B b rows a 0 w h hl)
  have hcw : cb < w.heap.size := by obtain ⟨v, -, -, -, -, -, -, hh⟩ := h; exact hh _ hSc
  clear h
  go_enter Tryz.func118, Tryz.ntmps118
  go_wp2_with fail
  refine HEX.out.mono ?_
  rintro e w2 ⟨rfl, hw2, hf2⟩
  have HW2 := Lib.hid hw2; have HF2 := Lib.hid hf2
  clear hw2 hf2
  go_wp2_with fail
  go_end0
  exact ⟨rfl, HW2.out, HF2.out⟩
set_option maxRecDepth 100000 in
set_option maxHeartbeats 16000000 in
theorem list_c9 (S : Nat → Prop) (B b cb : Nat) (rows : List (List Value)) (sep : List UInt8) (gk ok n ck : Nat) (w : World) (h : WrAt S B b w rows) (hl : rows.length ≤ 900000) (hn : n ≤ 10) (hSc : S cb) (cc : w.cell? ⟨cb, 0, none⟩ = some (.pointer (some ⟨b, 0, none⟩))) :
    Calls Tryz.prog 37 #[.pointer (some ⟨b, 0, none⟩), .slice (some ⟨gk, ok, none⟩) n ck, .string ⟨sep.toArray⟩, .func (.func 118) #[] #[.pointer (some ⟨cb, 0, none⟩)]] w (PcPost S B b (rows ++ argsR sep gk ok n) w) := by
  have HPUT := Lib.hid (fun rows s W h h2 => put_c9 S B b rows s W h h2)
  have HKID := Lib.hid (fun rows a W h h2 h3 => kid_c9 S B b cb rows a W h h2 hSc h3)
  have HW := Lib.hid h; have HL := Lib.hid hl
  have hcw : cb < w.heap.size := by obtain ⟨v, -, -, -, -, -, -, hh⟩ := h; exact hh _ hSc
  have HKP : Hid (∀ W, Fr2 (fun k => ¬ S k) w W → W.cell? ⟨cb, 0, none⟩ = some (.pointer (some ⟨b, 0, none⟩))) := Lib.hid (fun W hf => by rw [World.cell?_of_block (w := w) (hf.block cb hcw (fun e => e hSc))]; exact cc)
  clear h hl cc hSc hcw
  go_enter Tryz.func37, Tryz.ntmps37
  go_wp2_with fail
  go_loopw [11] (fun iv wr => ∃ k : Nat, k ≤ n ∧ iv = .int .i64 k ∧ Hid (WrAt S B b wr (rows ++ argsR sep gk ok k)) ∧ Hid (Fr2 (fun k => ¬ S k) w wr)) (fun iv _ => n - (intOf iv).toNat)
  case atStart => exact ⟨0, Nat.zero_le _, rfl, Lib.hid (by simpa [argsR] using HW.out), Lib.hid (Fr2.refl _ _)⟩
  case round =>
    obtain ⟨k, hkm, rfl, HWR, HF⟩ := hrel
    by_cases hlt : k < n
    · have y3 : decide ((k : Int) < (n : Int)) = true := decide_eq_true (by omega)
      have y4 : decide (k < n) = true := decide_eq_true hlt
      have HLR : Hid ((rows ++ argsR sep gk ok k).length ≤ 900020) := Lib.hid (by have := argsR_len sep gk ok k; rw [List.length_append]; have := HL.out; omega)
      have z1 : (0 : Int) ≤ (k : Int) := by omega
      have z2 : (k : Int) < (n : Int) := by omega
      by_cases hk0 : k = 0
      · subst hk0
        go_wp2_with fail
        refine (HKID.out _ _ wr HWR.out (by have := HLR.out; omega) (HKP.out wr HF.out)).mono ?_
        rintro e w3 ⟨rfl, hw3, hf3⟩
        have HF3 := Lib.hid (HF.out.trans hf3)
        have HW3 : Hid (WrAt S B b w3 (rows ++ argsR sep gk ok (0 + 1))) := Lib.hid (by
          simpa [argsR, rowX] using hw3)
        clear hw3 hf3
        go_wp2_with fail
        go_roundw
        case rel => exact ⟨0 + 1, by omega, by go_num, HW3, HF3⟩
        case measure => (simp [intOf] <;> omega)
      · have x1 : decide ((0 : Int) < (k : Int)) = true := decide_eq_true (by omega)
        have x2 : decide (0 < k) = true := decide_eq_true (by omega)
        have HK0 := Lib.hid hk0
        clear hk0
        go_wp2_with fail
        refine (HPUT.out _ _ wr HWR.out (by have := HLR.out; omega)).mono ?_
        rintro e w2 ⟨rfl, hw2, hf2⟩
        have HW2 := Lib.hid hw2; have HF2 := Lib.hid (HF.out.trans hf2)
        clear hw2 hf2
        go_wp2_with fail
        refine (HKID.out _ _ w2 HW2.out (by have h := HLR.out; simp only [List.length_append, List.length_cons, List.length_nil] at h ⊢; omega) (HKP.out w2 HF2.out)).mono ?_
        rintro e w3 ⟨rfl, hw3, hf3⟩
        have HF3 := Lib.hid (HF2.out.trans hf3)
        have HW3 : Hid (WrAt S B b w3 (rows ++ argsR sep gk ok (k + 1))) := Lib.hid (by
          simp only [argsR, if_neg HK0.out, rowX, rowB, strV, List.append_assoc, List.cons_append, List.nil_append] at hw3 ⊢
          exact hw3)
        clear hw3 hf3
        go_wp2_with fail
        go_roundw
        case rel => exact ⟨k + 1, by omega, by go_num, HW3, HF3⟩
        case measure => (simp [intOf] <;> omega)
    · obtain rfl : k = n := by omega
      go_wp2_with fail
      go_end0
      exact ⟨rfl, HWR.out, HF.out⟩

theorem WrAt.kept {S : Nat → Prop} {B b : Nat} {w w2 : World} {rows : List (List Value)} (h : WrAt S B b w rows) (hg : w.grownBy w2 none) : WrAt S B b w2 rows := by
  obtain ⟨v, hb, hO, hbB, hB, hSb, hSv, hSs⟩ := h
  exact ⟨v, bx hg hb, hO.kept hg, hbB, Nat.le_trans hB hg.size, hSb, hSv, fun k hk => Nat.lt_of_lt_of_le (hSs k hk) hg.size⟩
theorem WrAt.more {S : Nat → Prop} {B b c : Nat} {w w2 : World} {rows : List (List Value)} (h : WrAt S B b w rows) (hg : w.grownBy w2 none) (hc : w.heap.size ≤ c) (hc2 : c < w2.heap.size) : WrAt (fun k => S k ∨ k = c) B b w2 rows := by
  obtain ⟨v, hb, hO, hbB, hB, hSb, hSv, hSs⟩ := h
  have hbw := hlt hb
  refine ⟨v, bx hg hb, hO.kept hg, hbB, Nat.le_trans hB hg.size, fun e => ?_, fun k hk e => ?_, fun k hk => ?_⟩
  · rcases e with e | e
    · exact hSb e
    · omega
  · have := (hO.at k hk).2
    rcases e with e | e
    · exact hSv k hk e
    · omega
  · rcases hk with e | e
    · exact Nat.lt_of_lt_of_le (hSs k e) hg.size
    · omega
theorem WrAt.less {S : Nat → Prop} {B b c : Nat} {w : World} {rows : List (List Value)} (h : WrAt (fun k => S k ∨ k = c) B b w rows) : WrAt S B b w rows := by
  obtain ⟨v, hb, hO, hbB, hB, hSb, hSv, hSs⟩ := h
  exact ⟨v, hb, hO, hbB, hB, fun e => hSb (.inl e), fun k hk e => hSv k hk (.inl e), fun k hk => hSs k (.inl hk)⟩
theorem cat_eq (l : List UInt8) (x : UInt8) : ((⟨l.toArray⟩ : ByteArray) ++ (⟨#[x]⟩ : ByteArray)) = ⟨(l ++ [x]).toArray⟩ := by
  apply ByteArray.ext
  rw [ByteArray.data_append]
  apply Array.toList_inj.1
  simp
set_option maxRecDepth 100000 in
set_option maxHeartbeats 16000000 in
theorem list_nil9 (S : Nat → Prop) (B b : Nat) (rows : List (List Value)) (s : ByteArray) (p : Option Addr) (ck : Nat) (fv : Value) (w : World) (h : WrAt S B b w rows) :
    Calls Tryz.prog 37 #[.pointer (some ⟨b, 0, none⟩), .slice p 0 ck, .string s, fv] w (PcPost S B b rows w) := by
  have HW := Lib.hid h
  clear h
  go_enter Tryz.func37, Tryz.ntmps37
  go_wp2_with fail
  go_loopw [11] (fun iv wr => iv = .int .i64 0 ∧ wr = w) (fun _ _ => 0)
  case atStart => exact ⟨rfl, rfl⟩
  case round =>
    obtain ⟨rfl, rfl⟩ := hrel
    go_wp2_with fail
    go_end0
    exact ⟨rfl, HW.out, Fr2.refl _ _⟩
def callR (nm md : List UInt8) (gk ok n : Nat) : List (List Value) := (if md = [] then [] else [rowB (md ++ [46])]) ++ [rowB (nm ++ [40])] ++ argsR [44, 32] gk ok n ++ [rowB [41]]
set_option maxRecDepth 100000 in
set_option maxHeartbeats 16000000 in
theorem call_c9 (S : Nat → Prop) (B b : Nat) (rows : List (List Value)) (fg fo gk ok n ck : Nat) (pk : Option Addr) (nm md : List UInt8) (w : World) (h : WrAt S B b w rows) (hl : rows.length ≤ 800000) (hn : n ≤ 8) (hnl : nm.length ≤ 60000) (hml : md.length ≤ 60000) (hSf : S fg) (hpk : 0 < n → pk = some ⟨gk, ok, none⟩)
    (c1 : w.cell? ⟨fg, fo + 1, none⟩ = some (.string ⟨nm.toArray⟩)) (c2 : w.cell? ⟨fg, fo + 2, none⟩ = some (.string ⟨md.toArray⟩)) (c6 : w.cell? ⟨fg, fo + 6, none⟩ = some (.slice pk n ck)) :
    Calls Tryz.prog 84 #[.pointer (some ⟨b, 0, none⟩), .pointer (some ⟨fg, fo, none⟩)] w (PcPost S B b (rows ++ callR nm md gk ok n) w) := by
  have hfgw : fg < w.heap.size := by obtain ⟨v, -, -, -, -, -, -, hh⟩ := h; exact hh _ hSf
  obtain ⟨cb, hcb⟩ : ∃ cb, w.heap.size = cb := ⟨_, rfl⟩
  have hg := World.grownBy_alloc w (.cells #[.pointer (some ⟨b, 0, none⟩)] 82) none
  have hA := heap_alloc_new w (.cells #[.pointer (some ⟨b, 0, none⟩)] 82)
  have hsz : (w.alloc (.cells #[.pointer (some ⟨b, 0, none⟩)] 82)).heap.size = cb + 1 := by simp [hcb]
  rw [hcb] at hA
  have hW := h.more hg (Nat.le_of_eq hcb) (by rw [hsz]; omega)
  have hHS : ∀ k, S k → k < w.heap.size := by obtain ⟨v, -, -, -, -, -, -, hh⟩ := h; exact hh
  have d1 := hg.cell c1 (by simp)
  have d2 := hg.cell c2 (by simp)
  have d6 := hg.cell c6 (by simp)
  go_enter Tryz.func84, Tryz.ntmps84
  clear c1 c2 c6
  go_upto_region 1 with fail
  try rw [hcb]
  generalize (w.alloc (.cells #[.pointer (some ⟨b, 0, none⟩)] 82)) = W at *
  have z1 : ¬ 9223372036854775807 < md.length + 1 := by omega
  have z2 : ¬ 9223372036854775807 < nm.length + 1 := by omega
  have q0 : W.cell? ⟨cb, 0, none⟩ = some (.pointer (some ⟨b, 0, none⟩)) := by rw [cell_of_row W cb 0 _ _ (0, 0) hA]; rfl
  have hcw : cb < W.heap.size := by omega
  have hfW : fg < W.heap.size := Nat.lt_of_lt_of_le hfgw hg.size
  obtain ⟨S2, hS2⟩ : ∃ S2 : Nat → Prop, S2 = fun k => S k ∨ k = cb := ⟨_, rfl⟩
  have hSc : S2 cb := by rw [hS2]; exact .inr rfl
  have hSf2 : S2 fg := by rw [hS2]; exact .inl hSf
  have HEND : Hid (∀ rows' w', WrAt S2 B b w' rows' → Fr2 (fun k => ¬ S2 k) W w' → PcPost S B b rows' w (.returned (.tuple #[])) w') := Lib.hid (fun rows' w' h1 h2 => by
    rw [hS2] at h1 h2
    exact ⟨rfl, h1.less, (Fr2.none hg).trans (h2.mono (fun k hk e => hk (.inl e)))⟩)
  rw [← hS2] at hW
  have HKP : Hid (∀ W', Fr2 (fun k => ¬ S2 k) W W' → W'.cell? ⟨cb, 0, none⟩ = some (.pointer (some ⟨b, 0, none⟩)) ∧ W'.cell? ⟨fg, fo + 1, none⟩ = some (.string ⟨nm.toArray⟩) ∧ W'.cell? ⟨fg, fo + 2, none⟩ = some (.string ⟨md.toArray⟩) ∧ W'.cell? ⟨fg, fo + 6, none⟩ = some (.slice pk n ck) ∧ cb < W'.heap.size ∧ fg < W'.heap.size) := Lib.hid (fun W' hf =>
    ⟨by rw [World.cell?_of_block (w := W) (hf.block cb hcw (fun e => e hSc))]; exact q0, by rw [World.cell?_of_block (w := W) (hf.block fg hfW (fun e => e hSf2))]; exact d1, by rw [World.cell?_of_block (w := W) (hf.block fg hfW (fun e => e hSf2))]; exact d2, by rw [World.cell?_of_block (w := W) (hf.block fg hfW (fun e => e hSf2))]; exact d6, Nat.lt_of_lt_of_le hcw hf.size, Nat.lt_of_lt_of_le hfW hf.size⟩)
  have HPUT := Lib.hid (fun rows s W h h2 => put_c9 S2 B b rows s W h h2)
  have HLIST : Hid (∀ (R : List (List Value)) (W' : World), WrAt S2 B b W' R → R.length ≤ 900000 → W'.cell? ⟨cb, 0, none⟩ = some (.pointer (some ⟨b, 0, none⟩)) → Calls Tryz.prog 37 #[.pointer (some ⟨b, 0, none⟩), .slice pk n ck, .string ⟨#[44, 32]⟩, .func (.func 118) #[] #[.pointer (some ⟨cb, 0, none⟩)]] W' (PcPost S2 B b (R ++ argsR [44, 32] gk ok n) W')) := Lib.hid (fun R W' h1 h2 h3 => by
    rcases Nat.eq_zero_or_pos n with h0 | h0
    · subst h0
      have := list_nil9 S2 B b R ⟨#[44, 32]⟩ pk ck (.func (.func 118) #[] #[.pointer (some ⟨cb, 0, none⟩)]) W' h1
      simpa [argsR] using this
    · rw [hpk h0]
      exact list_c9 S2 B b cb R [44, 32] gk ok n ck W' h1 h2 (by omega) hSc h3)
  have HW0 := Lib.hid hW; have HL := Lib.hid hl; have HPK := Lib.hid hpk; have HN := Lib.hid hn
  clear hS2 hSc hSf2 hW h hl hA hsz hHS hg hSf hfgw hpk
  obtain ⟨R0, hR0⟩ : ∃ R0, rows ++ (if md = [] then [] else [rowB (md ++ [46])]) = R0 := ⟨_, rfl⟩
  have HR0 := Lib.hid hR0
  clear hR0
  by_cases hm : md = []
  focus
    have e1 : md.isEmpty = true := by subst hm; rfl
    have HW2 : Hid (WrAt S2 B b W R0) := Lib.hid (by rw [← HR0.out, if_pos hm, List.append_nil]; exact HW0.out)
    have HLR : Hid (R0.length ≤ 800001) := Lib.hid (by rw [← HR0.out, if_pos hm, List.append_nil]; have := HL.out; omega)
    clear hm
    go_wp2_with fail
    obtain ⟨w2, hw2⟩ : ∃ w2, W = w2 := ⟨W, rfl⟩
    have HF2 : Hid (Fr2 (fun k => ¬ S2 k) W w2) := Lib.hid (by rw [← hw2]; exact Fr2.refl _ _)
    rw [hw2] at HW2 q0 d1 d2 d6 hcw hfW ⊢
    clear hw2 e1
  rotate_left 1
  focus
    have e1 : md.isEmpty = false := by rw [emp_dec]; exact decide_eq_false hm
    go_wp2_with fail
    go_region_held3 (fun w' => w'.cell? ⟨cb, 0, none⟩ = some (.pointer (some ⟨b, 0, none⟩)) ∧ w'.cell? ⟨fg, fo + 1, none⟩ = some (.string ⟨nm.toArray⟩) ∧ w'.cell? ⟨fg, fo + 2, none⟩ = some (.string ⟨md.toArray⟩) ∧ w'.cell? ⟨fg, fo + 6, none⟩ = some (.slice pk n ck))
      (first | with_reducible exact ⟨q0, d1, d2, d6⟩ | go_keep)
      (first | (go_at_call 35; refine (HPUT.out _ _ _ (HW0.out.kept (by repeat (first | with_reducible exact gb_refl _ _ | with_reducible refine gb_drew ?_ | with_reducible refine gb_drewN ?_ _ | with_reducible refine gb_alloc ?_ _))) (by have := HL.out; omega)).mono ?_; rintro e w2 ⟨rfl, hw2, hf2⟩; have HW2 := Lib.hid hw2; have HF2 := Lib.hid ((Fr2.none (show W.grownBy _ none from (by repeat (first | with_reducible exact gb_refl _ _ | with_reducible refine gb_drew ?_ | with_reducible refine gb_drewN ?_ _ | with_reducible refine gb_alloc ?_ _)))).trans hf2); obtain ⟨q0, d1, d2, d6, hcw, hfW⟩ := HKP.out _ HF2.out; clear hw2 hf2))
    have HLR : Hid (R0.length ≤ 800001) := Lib.hid (by rw [← HR0.out, if_neg hm, List.length_append]; have := HL.out; simp; omega)
    have HW2 : Hid (WrAt S2 B b w2 R0) := Lib.hid (by
      have h := HW2.out
      rw [← HR0.out, if_neg hm]
      rw [cat_eq] at h
      exact h)
    clear hm e1
    go_wp2_with fail
  all_goals
    go_region_held3 (fun w' => w'.cell? ⟨cb, 0, none⟩ = some (.pointer (some ⟨b, 0, none⟩)) ∧ w'.cell? ⟨fg, fo + 1, none⟩ = some (.string ⟨nm.toArray⟩) ∧ w'.cell? ⟨fg, fo + 2, none⟩ = some (.string ⟨md.toArray⟩) ∧ w'.cell? ⟨fg, fo + 6, none⟩ = some (.slice pk n ck))
      (first | with_reducible exact ⟨q0, d1, d2, d6⟩ | go_keep)
      (first | (go_at_call 35; refine (HPUT.out _ _ _ (HW2.out.kept (by repeat (first | with_reducible exact gb_refl _ _ | with_reducible refine gb_drew ?_ | with_reducible refine gb_drewN ?_ _ | with_reducible refine gb_alloc ?_ _))) (by have := HLR.out; omega)).mono ?_; rintro e w3 ⟨rfl, hw3, hf3⟩; have HW3 := Lib.hid hw3; have HF3 := Lib.hid (HF2.out.trans ((Fr2.none (show w2.grownBy _ none from (by repeat (first | with_reducible exact gb_refl _ _ | with_reducible refine gb_drew ?_ | with_reducible refine gb_drewN ?_ _ | with_reducible refine gb_alloc ?_ _)))).trans hf3)); obtain ⟨q0, d1, d2, d6, hcw, hfW⟩ := HKP.out _ HF3.out; clear hw3 hf3))
    have HW3 : Hid (WrAt S2 B b w3 (R0 ++ [rowB (nm ++ [40])])) := Lib.hid (by
      have h := HW3.out
      rw [cat_eq] at h
      exact h)
    have HL3 : Hid ((R0 ++ [rowB (nm ++ [40])]).length ≤ 800002) := Lib.hid (by rw [List.length_append]; have := HLR.out; simp; omega)
    clear HW2
    go_wp2_with fail
    go_region_held3 (fun w' => w'.cell? ⟨cb, 0, none⟩ = some (.pointer (some ⟨b, 0, none⟩)) ∧ w'.cell? ⟨fg, fo + 1, none⟩ = some (.string ⟨nm.toArray⟩) ∧ w'.cell? ⟨fg, fo + 2, none⟩ = some (.string ⟨md.toArray⟩) ∧ w'.cell? ⟨fg, fo + 6, none⟩ = some (.slice pk n ck))
      (first | with_reducible exact ⟨q0, d1, d2, d6⟩ | go_keep)
      (first | (go_at_call 37; refine (HLIST.out _ _ (HW3.out.kept (by repeat (first | with_reducible exact gb_refl _ _ | with_reducible refine gb_drew ?_ | with_reducible refine gb_drewN ?_ _ | with_reducible refine gb_alloc ?_ _))) (by have := HL3.out; omega) (by first | with_reducible exact q0 | go_keep)).mono ?_; rintro e w4 ⟨rfl, hw4, hf4⟩; have HW4 := Lib.hid hw4; have HF4 := Lib.hid (HF3.out.trans ((Fr2.none (show w3.grownBy _ none from (by repeat (first | with_reducible exact gb_refl _ _ | with_reducible refine gb_drew ?_ | with_reducible refine gb_drewN ?_ _ | with_reducible refine gb_alloc ?_ _)))).trans hf4)); obtain ⟨q0, d1, d2, d6, hcw, hfW⟩ := HKP.out _ HF4.out; clear hw4 hf4))
    have HL4 : Hid ((R0 ++ [rowB (nm ++ [40])] ++ argsR [44, 32] gk ok n).length ≤ 800020) := Lib.hid (by rw [List.length_append]; have := HL3.out; have := argsR_len [44, 32] gk ok n; have := HN.out; omega)
    go_wp2_with fail
    refine (HPUT.out _ _ w4 HW4.out (by have := HL4.out; omega)).mono ?_
    rintro e w5 ⟨rfl, hw5, hf5⟩
    have HF5 := Lib.hid (HF4.out.trans hf5)
    have HW5 : Hid (WrAt S2 B b w5 (rows ++ callR nm md gk ok n)) := Lib.hid (by
      unfold callR
      rw [← List.append_assoc, ← List.append_assoc, ← List.append_assoc, HR0.out]
      exact hw5)
    clear hw5 hf5
    go_wp2_with fail
    go_end0
    exact HEND.out _ _ HW5.out HF5.out

def signs9 : List (List UInt8) := [[43], [45], [42], [47], [37], [61], [60, 62], [60], [60, 61], [62], [62, 61], [38, 38], [124, 124], [61, 62]]
/-- The signs of the shows lie in their variable. -/
def LaidW (w : World) : Prop := ∀ (j : Nat) (l : List UInt8), signs9[j]? = some l → w.cell? ⟨0, j, none⟩ = some (.string ⟨l.toArray⟩)
theorem signT_get {j : Nat} {l : List UInt8} (h : signs9[j]? = some l) : signS ((7 + j : Nat) : Int) = l := by
  unfold signS
  rw [show (((7 + j : Nat) : Int) - 7).toNat = j by omega]
  show signs9.getD j [] = l
  rw [List.getD_eq_getElem?_getD, h]; rfl
theorem sign_len {j : Nat} {l : List UInt8} (h : signs9[j]? = some l) : l.length ≤ 2 := by
  have h1 := List.mem_of_getElem? h
  revert h1
  have : ∀ x ∈ signs9, x.length ≤ 2 := by decide
  exact fun h1 => this l h1
theorem cat_eq3 (l : List UInt8) : ((⟨#[32]⟩ : ByteArray) ++ (⟨l.toArray⟩ : ByteArray) ++ (⟨#[32]⟩ : ByteArray)) = ⟨([32] ++ l ++ [32]).toArray⟩ := by
  apply ByteArray.ext
  rw [ByteArray.data_append, ByteArray.data_append]
  apply Array.toList_inj.1
  simp
set_option maxRecDepth 100000 in
set_option maxHeartbeats 16000000 in
theorem signed_c9 (S : Nat → Prop) (B b : Nat) (rows : List (List Value)) (fg fo gk ok ck j : Nat) (sg : List UInt8) (w : World) (h : WrAt S B b w rows) (hl : rows.length ≤ 800000) (hj : signs9[j]? = some sg) (hSf : S fg) (hSg : S 0) (hla : LaidW w)
    (c0 : w.cell? ⟨fg, fo, none⟩ = some (.int .i64 ((7 + j : Nat) : Int))) (c6 : w.cell? ⟨fg, fo + 6, none⟩ = some (.slice (some ⟨gk, ok, none⟩) 2 ck)) :
    Calls Tryz.prog 85 #[.pointer (some ⟨b, 0, none⟩), .pointer (some ⟨fg, fo, none⟩)] w (PcPost S B b (rows ++ [rowX gk ok (sideA (levS ((7 + j : Nat) : Int)) : Nat), rowB ([32] ++ sg ++ [32]), rowX gk (ok + 8) (sideB (levS ((7 + j : Nat) : Int)) : Nat)]) w) := by
  have hj14 : j < 14 := (List.getElem?_eq_some_iff.1 hj).1
  have hsl := sign_len hj
  have HLV := Lib.hid (fun W => level_c ((7 + j : Nat) : Int) (by omega) (by omega) W)
  obtain ⟨lv, hlv⟩ : ∃ lv, levS ((7 + j : Nat) : Int) = lv := ⟨_, rfl⟩
  have hlv9 : lv ≤ 9 := by rw [← hlv]; unfold levS; repeat (first | omega | split)
  rw [hlv] at HLV ⊢
  have HSD := Lib.hid (fun W => sides_c lv hlv9 W)
  obtain ⟨sa, hsa⟩ : ∃ x, sideA lv = x := ⟨_, rfl⟩
  obtain ⟨sb, hsb⟩ : ∃ x, sideB lv = x := ⟨_, rfl⟩
  rw [hsa, hsb] at HSD ⊢
  have HEXP := Lib.hid (fun rows a (l : Int) W h h2 => expr_c9 S B b rows a l W h h2)
  have HPUT := Lib.hid (fun rows s W h h2 => put_c9 S B b rows s W h h2)
  have HHS : Hid (∀ k, S k → k < w.heap.size) := Lib.hid (by obtain ⟨v, -, -, -, -, -, -, hh⟩ := h; exact hh)
  have hfgw : fg < w.heap.size := HHS.out _ hSf
  have hgw : 0 < w.heap.size := HHS.out _ hSg
  have cs : w.cell? ⟨0, j, none⟩ = some (.string ⟨sg.toArray⟩) := hla j sg hj
  have HKP : Hid (∀ W', Fr2 (fun k => ¬ S k) w W' → W'.cell? ⟨fg, fo, none⟩ = some (.int .i64 ((7 + j : Nat) : Int)) ∧ W'.cell? ⟨fg, fo + 6, none⟩ = some (.slice (some ⟨gk, ok, none⟩) 2 ck) ∧ W'.cell? ⟨0, j, none⟩ = some (.string ⟨sg.toArray⟩) ∧ fg < W'.heap.size ∧ 0 < W'.heap.size) := Lib.hid (fun W' hf =>
    ⟨by rw [World.cell?_of_block (w := w) (hf.block fg hfgw (fun e => e hSf))]; exact c0, by rw [World.cell?_of_block (w := w) (hf.block fg hfgw (fun e => e hSf))]; exact c6, by rw [World.cell?_of_block (w := w) (hf.block 0 hgw (fun e => e hSg))]; exact cs, Nat.lt_of_lt_of_le hfgw hf.size, Nat.lt_of_lt_of_le hgw hf.size⟩)
  have HW := Lib.hid h; have HL := Lib.hid hl
  have hw7 : IntKind.i64.wrap (((7 + j : Nat) : Int) - 7) = (j : Int) := by rw [IntWalk.i64_in _ (by omega)]; omega
  obtain ⟨op, hop⟩ : ∃ op : Int, ((7 + j : Nat) : Int) = op := ⟨_, rfl⟩
  rw [hop] at hw7 c0 HKP HLV
  have z1 : (0 : Int) ≤ (j : Int) := by omega
  have z2 : (j : Int) < 14 := by omega
  have z3 : decide (j < 14) = true := decide_eq_true hj14
  have z4 : ¬ 9223372036854775807 < 1 + sg.length := by omega
  have z5 : ¬ 9223372036854775807 < 1 + sg.length + 1 := by omega
  have z6 : ¬ 9223372036854775807 < sg.length + 1 := by omega
  have z7 : ¬ 9223372036854775807 < sg.length + 1 + 1 := by omega
  clear h hl hla hSf hSg hfgw hgw hlv hlv9 hsa hsb hj hsl hop
  go_enter Tryz.func85, Tryz.ntmps85
  go_wp2_with fail
  refine (HLV.out w).mono ?_
  rintro e w1 ⟨rfl, hg1⟩
  have HG1 := Lib.hid hg1
  clear hg1
  go_wp2_with fail
  refine (HSD.out w1).mono ?_
  rintro e w2 ⟨rfl, hg2⟩
  have HG2 := Lib.hid (gb_trans HG1.out hg2)
  have HW2 := Lib.hid (HW.out.kept HG2.out)
  have HF2 : Hid (Fr2 (fun k => ¬ S k) w w2) := Lib.hid (Fr2.none HG2.out)
  clear hg2
  obtain ⟨c0, c6, cs, hfw, hgw⟩ := HKP.out _ HF2.out
  go_wp2_with fail
  refine (HEXP.out _ _ _ w2 HW2.out (by have := HL.out; omega)).mono ?_
  rintro e w3 ⟨rfl, hw3, hf3⟩
  have HW3 := Lib.hid hw3; have HF3 := Lib.hid (HF2.out.trans hf3)
  clear hw3 hf3
  obtain ⟨c0, c6, cs, hfw, hgw⟩ := HKP.out _ HF3.out
  go_wp2_with fail
  refine (HPUT.out _ _ w3 HW3.out (by have h := HL.out; simp only [List.length_append, List.length_cons, List.length_nil]; omega)).mono ?_
  rintro e w4 ⟨rfl, hw4, hf4⟩
  rw [cat_eq3] at hw4
  have HW4 := Lib.hid hw4; have HF4 := Lib.hid (HF3.out.trans hf4)
  clear hw4 hf4
  obtain ⟨c0, c6, cs, hfw, hgw⟩ := HKP.out _ HF4.out
  go_wp2_with fail
  refine (HEXP.out _ _ _ w4 HW4.out (by have h := HL.out; simp only [List.length_append, List.length_cons, List.length_nil]; omega)).mono ?_
  rintro e w5 ⟨rfl, hw5, hf5⟩
  have HF5 := Lib.hid (HF4.out.trans hf5)
  have HW5 : Hid (WrAt S B b w5 (rows ++ [rowX gk ok (sa : Nat), rowB ([32] ++ sg ++ [32]), rowX gk (ok + 8) (sb : Nat)])) := Lib.hid (by
    simp only [List.append_assoc, List.cons_append, List.nil_append] at hw5 ⊢
    exact hw5)
  clear hw5 hf5
  go_wp2_with fail
  go_end0
  exact ⟨rfl, HW5.out, HF5.out⟩

theorem decL_len (N : Nat) : (Zd.decL N).length = Zd.nd N := by simp [Zd.decL]
theorem txt_small {Z : Int} (h0 : 0 ≤ Z) (h : (Zd.txtL Z).length ≤ 60) : Z.natAbs < 10 ^ 60 := by
  by_cases hz : Z = 0
  · subst hz; exact Nat.pow_pos (by omega)
  · have e : Zd.txtL Z = Zd.decL Z.natAbs := by unfold Zd.txtL; rw [if_neg hz, if_neg (by omega)]
    rw [e, decL_len] at h
    exact Nat.lt_of_lt_of_le (Zd.nd_lt _) (Nat.pow_le_pow_right (by omega) h)
theorem ten_two : 10 ^ 60 ≤ 2 ^ 200 := by decide
theorem bits_small {N n : Nat} (h : N < 10 ^ 60) (h2 : 2 ^ (n - 1) ≤ N) : n ≤ 240 := by
  have h3 : 2 ^ (n - 1) < 2 ^ 200 := Nat.lt_of_le_of_lt h2 (Nat.lt_of_lt_of_le h ten_two)
  have h4 := (Nat.pow_lt_pow_iff_right (by omega : 1 < 2)).1 h3
  omega
theorem sg_zero (Z : Int) : (Zd.sg Z == 0) = decide (Z = 0) := by
  unfold Zd.sg
  by_cases h : Z = 0
  · subst h; rfl
  · rw [decide_eq_false h]
    split
    · rfl
    · rfl
theorem sg_pos (Z : Int) : decide (0 ≤ Zd.sg Z) = decide (0 ≤ Z) := by
  unfold Zd.sg
  by_cases h : Z < 0
  · rw [if_pos h, decide_eq_false (by omega : ¬ 0 ≤ Z)]; rfl
  · rw [if_neg h, decide_eq_true (by omega : 0 ≤ Z)]; split <;> rfl
set_option maxRecDepth 100000 in
set_option maxHeartbeats 16000000 in
theorem num_other (op : Int) (hop : op ≠ 1) (g off : Nat) (nu : Int) (s : Bool) (pw : Option Addr) (nw cw : Nat) (w : World) (c0 : w.cell? ⟨g, off, none⟩ = some (.int .i64 op)) (c3 : w.cell? ⟨g, off + 3, none⟩ = some (.bool s)) (c4 : w.cell? ⟨g, off + 4, none⟩ = some (.slice pw nw cw)) (hi : Zd.IsInt w (.agg #[.bool s, .slice pw nw cw]) nu) :
    Calls Tryz.prog 110 #[.pointer (some ⟨g, off, none⟩)] w (TruePost (decide (nu = 0)) w) := by
  have HS := Lib.hid (Zd.Sign_c _ nu w hi)
  have d1 : (op == 1) = false := beq_eq_false_iff_ne.2 hop
  have d1' : (op != 1) = true := by rw [bne, d1]; rfl
  have c4' : w.cell? ⟨g, off + 3 + 1, none⟩ = some (.slice pw nw cw) := c4
  have HZ := Lib.hid (sg_zero nu)
  clear hi hop
  go_enter Tryz.func110, Tryz.ntmps110
  go_wp2_with fail
  refine HS.out.mono ?_
  rintro e w1 ⟨rfl, hg⟩
  have HG := Lib.hid hg
  clear hg
  go_wp2_with fail
  go_ret
  exact ⟨by rw [← HZ.out]; rfl, HG.out⟩
set_option maxRecDepth 100000 in
set_option maxHeartbeats 16000000 in
theorem num_lit (g off : Nat) (nu : Int) (s : Bool) (pw : Option Addr) (nw cw : Nat) (w : World) (c0 : w.cell? ⟨g, off, none⟩ = some (.int .i64 1)) (c3 : w.cell? ⟨g, off + 3, none⟩ = some (.bool s)) (c4 : w.cell? ⟨g, off + 4, none⟩ = some (.slice pw nw cw)) (hi : Zd.IsInt w (.agg #[.bool s, .slice pw nw cw]) nu) (hZ : nu.natAbs < Zd.Lim) :
    Calls Tryz.prog 110 #[.pointer (some ⟨g, off, none⟩)] w (TruePost (decide (0 ≤ nu) && decide ((Zd.txtL nu).length ≤ 60)) w) := by
  have HS := Lib.hid (Zd.Sign_c _ nu w hi)
  have HB := Lib.hid (fun W (h : w.grownBy W none) => Zd.Bits_c _ nu W (hi.kept h) hZ)
  have HT := Lib.hid (fun W (h : w.grownBy W none) => Zd.String_c _ nu W (hi.kept h) hZ)
  have HP := Lib.hid (sg_pos nu)
  have HSM := Lib.hid (fun h0 h => @txt_small nu h0 h)
  have c4' : w.cell? ⟨g, off + 3 + 1, none⟩ = some (.slice pw nw cw) := c4
  have HC3 := Lib.hid c3
  have HC4 := Lib.hid c4'
  have HX0 := Lib.hid c0
  clear hi hZ
  by_cases h0 : 0 ≤ nu
  · have d0 : decide (0 ≤ Zd.sg nu) = true := by rw [HP.out]; exact decide_eq_true h0
    rw [decide_eq_true h0]
    have HH0 := Lib.hid h0
    obtain ⟨sz, hsz⟩ : ∃ z, Zd.sg nu = z := ⟨_, rfl⟩
    rw [hsz] at HS d0
    obtain ⟨TX, hTX⟩ : ∃ z, Zd.txtL nu = z := ⟨_, rfl⟩
    have HTX := Lib.hid hTX
    have HV : Hid (Zd.txt nu = .string ⟨TX.toArray⟩) := Lib.hid (by unfold Zd.txt; rw [hTX])
    rw [hTX] at HSM ⊢
    clear h0 hsz HP hTX
    go_enter Tryz.func110, Tryz.ntmps110
    go_wp2_with fail
    refine HS.out.mono ?_
    rintro e w1 ⟨rfl, hg⟩
    have HG := Lib.hid hg
    have c3 := hg.cell HC3.out (by simp)
    have c4 := hg.cell HC4.out (by simp)
    clear hg
    go_wp2_with fail
    refine (HB.out _ HG.out).mono ?_
    rintro e w2 ⟨n, rfl, hn0, hn1, hg2⟩
    have HG2 := Lib.hid (gb_trans HG.out hg2)
    have c3 := HG2.out.cell HC3.out (by simp)
    have c4 := HG2.out.cell HC4.out (by simp)
    have HN0 := Lib.hid hn0; have HN1 := Lib.hid hn1
    clear hg2 hn0 hn1
    by_cases hn : n ≤ 240
    · have e1 : decide ((n : Int) ≤ 240) = true := decide_eq_true (by omega)
      have e2 : decide (n ≤ 240) = true := decide_eq_true hn
      clear hn
      go_wp2_with fail
      refine (HT.out _ HG2.out).mono ?_
      rintro e w3 ⟨rfl, hg3⟩
      have HG3 := Lib.hid (gb_trans HG2.out hg3)
      rw [HV.out]
      clear hg3
      have HL : Hid (decide ((TX.length : Int) ≤ 60) = decide (TX.length ≤ 60)) := Lib.hid (nat_ble TX.length 60)
      go_wp2_with fail
      go_ret
      exact ⟨by rw [Bool.true_and, ← HL.out]; rfl, HG3.out⟩
    · have e1 : decide ((n : Int) ≤ 240) = false := decide_eq_false (by omega)
      have e2 : decide (n ≤ 240) = false := decide_eq_false hn
      have hb : decide (TX.length ≤ 60) = false := decide_eq_false (fun h => by
        have h1 := HSM.out HH0.out h
        by_cases hz : nu = 0
        · have := HN0.out hz; omega
        · exact hn (bits_small h1 (HN1.out hz).1))
      have HBF := Lib.hid hb
      clear hn hb
      go_wp2_with fail
      go_ret
      exact ⟨by rw [HBF.out]; simp, HG2.out⟩
  · have d0 : decide (0 ≤ Zd.sg nu) = false := by rw [HP.out]; exact decide_eq_false h0
    rw [decide_eq_false h0]
    obtain ⟨sz, hsz⟩ : ∃ z, Zd.sg nu = z := ⟨_, rfl⟩
    rw [hsz] at HS d0
    clear h0 hsz HP
    go_enter Tryz.func110, Tryz.ntmps110
    go_wp2_with fail
    refine HS.out.mono ?_
    rintro e w1 ⟨rfl, hg⟩
    have HG := Lib.hid hg
    clear hg
    go_wp2_with fail
    go_ret
    exact ⟨by simp, HG.out⟩
theorem rightNumber_c (F : Nat → Prop) (a : Addr) (op : Int) (nm md : List UInt8) (nu : Int) (ys : Bool) (ks : List Sx) (ps : Int) (q : List Value) (w : World) (hc : CAt w a q) (hx : SAt F w (.mk op nm md nu ys ks ps) q) (hZ : nu.natAbs < Zd.Lim) :
    Calls Tryz.prog 110 #[.pointer (some a)] w (TruePost (numB op nu) w) := by
  simp only [SAt] at hx
  obtain ⟨s, pw, nw, cw, pk, ck, rows, rfl, hi, -⟩ := hx
  obtain ⟨g, off, rfl, hg, hc⟩ := hc
  have c0 := hc 0 _ rfl
  have c3 := hc 3 _ rfl
  have c4 := hc 4 _ rfl
  rw [Nat.add_zero] at c0
  unfold numB
  by_cases h1 : op = 1
  · subst h1; rw [if_pos rfl]; exact num_lit g off nu s pw nw cw w c0 c3 c4 hi hZ
  · rw [if_neg h1]; exact num_other op h1 g off nu s pw nw cw w c0 c3 c4 hi
end Go.Proofs.YtijpelkjeejjfaaGreatDoor
