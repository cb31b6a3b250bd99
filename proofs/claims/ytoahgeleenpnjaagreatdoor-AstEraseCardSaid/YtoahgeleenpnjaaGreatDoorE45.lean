/- The root of a program's tree: its kids have the form of imports and definitions. -/
import Derived.Test.YtoahgeleenpnjaaGreatDoorE44
import Derived.Test.YtoahgeleenpnjaaGreatDoorE39
import Derived.Test.YtoahgeleenpnjaaGreatDoorE43
import Derived.Test.YtoahgeleenpnjaaGreatDoorE16
set_option linter.unusedVariables false
set_option linter.unusedSimpArgs false
namespace Go.Proofs.YtoahgeleenpnjaaGreatDoor
open Go.RowKit

/-- The program of a text. -/
def progE (l : List UInt8) (D : Int) : Px := progX (allE l).1 (treeT (allE l).1 D.toNat false).1
theorem text_in {L : List Tok} : ∀ {t : Tok}, t ∈ L → t.lead.length + t.text.length ≤ (wholeL L).length := by
  induction L with
  | nil => intro t h; simp at h
  | cons a L ih =>
    intro t h
    have e : wholeL (a :: L) = a.lead ++ a.text ++ wholeL L := rfl
    rw [e, List.length_append, List.length_append]
    rcases List.mem_cons.1 h with rfl | h
    · omega
    · have := ih h; omega
theorem toks_small {l : List UInt8} (hl : l.length ≤ 30000) (h : (allE l).2.1 = 0) : ∀ i, (tkT (allE l).1 i).pos ≤ 1000000 ∧ (tkT (allE l).1 i).text.length ≤ 1000000 := fun i => by
  unfold tkT
  cases ht : (allE l).1[i]? with
  | none => exact ⟨by simp, by simp⟩
  | some t =>
    have h1 := text_in (List.mem_of_getElem? ht)
    have h2 := ((place_all h).1 i t ht).1
    have h3 := wholeL_take (allE l).1 i
    rw [whole_all h] at h1 h3
    simp only [Option.getD_some]
    omega
theorem prog_root {l : List UInt8} {D : Int} (h : ReadF l D false) : ∃ (ks : List Int), (nodesQ l D false)[(nodesQ l D false).length - 1]? = some ⟨((1 : Nat) : Int), -1, ks⟩ ∧ KT (nodesQ l D false) ((nodesQ l D false).length - 1) ks (treeT (allE l).1 D.toNat false).1 ∧ kOks (treeT (allE l).1 D.toNat false).1 ∧ (∀ i ∈ lvTs (treeT (allE l).1 D.toNat false).1, i < (allE l).1.length) ∧ szRs (treeT (allE l).1 D.toNat false).1 ≤ (nodesQ l D false).length ∧ ∀ t ∈ (treeT (allE l).1 D.toNat false).1, OkP (allE l).1 t := by
  have hr := TrAt.root (.nd 1 (treeT (allE l).1 D.toNat false).1)
  have hNN : nodesQ l D false = post 0 (.nd 1 (treeT (allE l).1 D.toNat false).1) := rfl
  obtain ⟨n, ks, hn, hx, hkt⟩ := hr.nd
  have hlen : (nodesQ l D false).length = szR (.nd 1 (treeT (allE l).1 D.toNat false).1) := by rw [hNN, post_len]
  have hn' : n = (nodesQ l D false).length - 1 := by omega
  rw [← hNN] at hx hkt
  rw [hn'] at hx hkt
  refine ⟨ks, hx, hkt, tree_ko (allE l).1 D.toNat false, fun i hi => ?_, ?_, okp_of (prog_w (num_all l) h.ok)⟩
  · rw [tree_leaves h.lex D.toNat false h.ok] at hi
    exact List.mem_range.1 hi
  · rw [hlen]; simp only [szR]; omega
/-- The program of the tree that is made anew, read. -/
theorem prog_read {l : List UInt8} {D : Int} (hl : l.length ≤ 25000) (h : ReadF l D false) (hN : (nodesQ l D false).length ≤ 2 * (allE l).1.length) {K : Kf} (pt pn : Option Addr) (ct cn : Nat) (w : World) (ht : TAt w pt (allE l).1) (hn : NodesAt w pn (nodesQ l D false) K) (hla : LaidS w) :
    Calls Tryz.prog 26 #[.agg #[.slice pt (allE l).1.length ct, .slice pn (nodesQ l D false).length cn]] w (PrgPost (progE l D) w) := by
  obtain ⟨ks, hx, hkt, hko, hlv, hsz, hok⟩ := prog_root h
  have hlen := len_all h.lex
  exact program_c (K := K) (by omega) (by omega) rfl hx hkt hko hlv (by omega) hok (toks_small (by omega) h.lex) pt pn ct cn w ht hn hla
end Go.Proofs.YtoahgeleenpnjaaGreatDoor
namespace Go.Proofs.YtoahgeleenpnjaaGreatDoor

/-! ### Of a text's program -/

/-- Trees that are not too great. -/
def SmT (T : List Tok) (l : List Tr) : Prop := szRs l ≤ 4000 ∧ sumTx T (lvTs l) ≤ 5000
theorem szR_in : ∀ {l : List Tr} {t : Tr}, t ∈ l → szR t ≤ szRs l
  | [], t, h => by simp at h
  | a :: l, t, h => by
    simp only [szRs]
    rcases List.mem_cons.1 h with rfl | h
    · omega
    · have := szR_in h; omega
theorem smT_kids {T : List Tok} {l : List Tr} {t : Tr} (h : SmT T l) (ht : t ∈ l) : szR t ≤ 4000 ∧ sumTx T (lvT t) ≤ 5000 ∧ SmT T (kidsT t) := by
  have h1 := szR_in ht
  have h2 : sumTx T (lvT t) ≤ sumTx T (lvTs l) := by
    clear h h1
    induction l with
    | nil => simp at ht
    | cons a l ih =>
      simp only [lvTs, sumTx_append]
      rcases List.mem_cons.1 ht with rfl | ht
      · omega
      · have := ih ht; omega
  refine ⟨Nat.le_trans h1 h.1, Nat.le_trans h2 h.2, ?_⟩
  cases t with
  | lf i => exact ⟨by simp [kidsT, szRs], by simp [kidsT, lvTs, sumTx_nil]⟩
  | nd k r =>
    simp only [szR] at h1
    simp only [lvT] at h2
    exact ⟨by have := h.1; simp only [kidsT]; omega, Nat.le_trans h2 h.2⟩
theorem smT_len {T : List Tok} {l : List Tr} (h : SmT T l) : l.length ≤ 4000 := by
  have key : ∀ l : List Tr, l.length ≤ szRs l := fun l => by
    induction l with
    | nil => simp
    | cons a l ih => have := szR_pos a; simp only [List.length_cons, szRs]; omega
  exact Nat.le_trans (key l) h.1
section
variable {T : List Tok} (hT : ∀ t ∈ T, t.text.length ≤ 1500)
include hT
theorem tk_text (i : Nat) : (tkT T i).text.length ≤ 1500 := by
  unfold tkT
  cases ht : T[i]? with
  | none => simp
  | some t => exact hT t (List.mem_of_getElem? ht)
theorem xbd_tree {t : Tr} (h1 : szR t ≤ 4001) (h2 : sumTx T (lvT t) ≤ 5000) : XBd (axT T t) := by
  have hcs := cntE_sizE (axT T t)
  have hss := sizE_axT T t
  have hdd := dmpE_axT T t
  exact ⟨allS_axT T (fun t ht => by have := hT t ht; omega) t, by omega, by omega, by omega⟩
theorem fbd_step {f : Fx} {t : Tr} (h : FBd f) (h1 : szR t ≤ 4000) (h2 : sumTx T (lvT t) ≤ 5000) : FBd (stepF T f t) := by
  cases t with
  | lf i =>
    have := tk_text hT i
    simp only [stepF]
    split
    · exact ⟨by show (tkT T i).text.length ≤ 2000; omega, h.base, h.one, h.cls⟩
    · exact h
  | nd k l =>
    simp only [stepF]
    split
    · exact ⟨h.name, by show baseN _ < 100; unfold baseN; split <;> omega, h.one, h.cls⟩
    split
    · refine ⟨h.name, h.base, by simp, fun x hx => ?_⟩
      have hx : x = (axTs T l).headD nilE := List.mem_singleton.1 hx
      rw [hx]
      have e : (axTs T l).headD nilE = axT T (.nd 12 l) := by rw [axT, if_pos rfl]
      rw [e]
      refine xbd_tree hT ?_ h2
      simp only [szR] at h1 ⊢; omega
    · exact h
theorem fbd_field {l : List Tr} (h : SmT T l) : FBd (fieldX T l) := by
  unfold fieldX
  have h0 : FBd (⟨[], 0, [], 0, 0⟩ : Fx) := ⟨by simp, by decide, by simp, fun x hx => by simp at hx⟩
  have hk : ∀ t ∈ l, szR t ≤ 4000 ∧ sumTx T (lvT t) ≤ 5000 := fun t ht => ⟨(smT_kids h ht).1, (smT_kids h ht).2.1⟩
  clear h
  revert h0
  generalize (⟨[], 0, [], 0, 0⟩ : Fx) = f
  intro h0
  induction l generalizing f with
  | nil => exact h0
  | cons a l ih =>
    rw [List.foldl_cons]
    exact ih (fun t ht => hk t (by simp [ht])) _ (fbd_step hT h0 (hk a (by simp)).1 (hk a (by simp)).2)
theorem dbe_def {l : List Tr} (h : SmT T l) : DBe (defX T l) := by
  refine ⟨fun f hf => ?_, ?_, fbd_field hT h, ?_⟩
  · obtain ⟨t, ht, rfl⟩ := List.mem_map.1 (show f ∈ paramsX T l from hf)
    exact fbd_field hT (smT_kids h (List.mem_filter.1 ht).1).2.2
  · show (paramsX T l).length ≤ 10000
    unfold paramsX
    rw [List.length_map]
    have h1 := List.length_filter_le (fun t => kindT' t == 4) l
    have h2 := smT_len h
    omega
  · show XBd (axT T (l.getD (l.length - 2) (.lf 0)))
    rw [List.getD_eq_getElem?_getD]
    cases hx : l[l.length - 2]? with
    | none =>
      have := tk_text hT 0
      refine xbd_tree hT (by simp [szR]) ?_
      simp only [Option.getD_none, lvT, sumTx_cons, sumTx_nil]; omega
    | some t =>
      have h1 := smT_kids h (List.mem_of_getElem? hx)
      exact xbd_tree hT (by simp only [Option.getD_some]; omega) (by simp only [Option.getD_some]; exact h1.2.1)
theorem pbd_prog {l : List Tr} (h : SmT T l) : PBd (progX T l) := by
  have h2 := smT_len h
  refine ⟨fun x hx => ?_, ?_, fun d hd => ?_, ?_⟩
  · obtain ⟨t, ht, rfl⟩ := List.mem_map.1 (show x ∈ (l.filter (fun t => kindT' t == 2)).map (fun t => impX T (kidsT t)) from hx)
    have := tk_text hT ((ownL (kidsT t)).getD 1 T.length)
    show (tkT T ((ownL (kidsT t)).getD 1 T.length)).text.length ≤ 2000
    omega
  · show ((l.filter (fun t => kindT' t == 2)).map (fun t => impX T (kidsT t))).length ≤ 10000
    rw [List.length_map]
    have h1 := List.length_filter_le (fun t => kindT' t == 2) l
    omega
  · obtain ⟨t, ht, rfl⟩ := List.mem_map.1 (show d ∈ (l.filter (fun t => kindT' t == 3)).map (fun t => defX T (kidsT t)) from hd)
    exact dbe_def hT (smT_kids h (List.mem_filter.1 ht).1).2.2
  · show ((l.filter (fun t => kindT' t == 3)).map (fun t => defX T (kidsT t))).length ≤ 10000
    rw [List.length_map]
    have h1 := List.length_filter_le (fun t => kindT' t == 3) l
    omega
end
/-- The program of a text that is not too long. -/
theorem pbd_text {l : List UInt8} {D : Int} (hl : l.length ≤ 1500) (h : ReadF l D false) (hN : (nodesQ l D false).length ≤ 2 * (allE l).1.length) : PBd (progE l D) := by
  have hlen := len_all h.lex
  have e2 := sum_texts (allE l).1
  rw [whole_all h.lex] at e2
  refine pbd_prog (T := (allE l).1) (fun k hk => ?_) ⟨?_, ?_⟩
  · have e3 : k.text.length ≤ ((allE l).1.map (fun t => t.text.length)).sum := le_sum8 (List.mem_map.2 ⟨k, hk, rfl⟩)
    omega
  · obtain ⟨_, _, _, _, _, h5, _⟩ := prog_root h
    omega
  · rw [tree_leaves h.lex D.toNat false h.ok, sumTx_range]; omega
end Go.Proofs.YtoahgeleenpnjaaGreatDoor
namespace Go.Proofs.YtoahgeleenpnjaaGreatDoor
open Go.RowKit

theorem box0 (w : World) (A : Obj) : ∃ (W : World) (b0 : Nat), W = w.alloc A ∧ w.heap.size = b0 ∧ W.heap[b0]? = some A ∧ w.grownBy W none :=
  ⟨_, _, rfl, rfl, heap_alloc_new w A, World.grownBy_alloc w A none⟩
/-- What writing leaves. -/
def WrPost (B b : Nat) (s : List UInt8) (w : World) (e : Ending) (w' : World) : Prop := e = .returned (.tuple #[]) ∧ PD B b s w' ∧ Below B w w' ∧ OKept b w w'
def Room (s : List UInt8) (n : Nat) : Prop := s.length + n ≤ 100000000000000

theorem put_c (B b : Nat) (s : List UInt8) (y : ByteArray) (w : World) (hp : PD B b s w) (hl : Room s y.size) :
    Calls Tryz.prog 29 #[.pointer (some ⟨b, 0, none⟩), .string y] w (fun e w' => e = .returned (.tuple #[.int .i64 y.size, .nilIface]) ∧ PD B b (s ++ y.data.toList) w' ∧ Below B w w' ∧ OKept b w w') := by
  unfold Room at hl
  refine (WriteString_c B b _ y w hp.1 (by rw [Lib.byteCells_length]; omega) hp.2).mono ?_
  rintro e w' ⟨rfl, ⟨h3, h4⟩, h5⟩
  exact ⟨rfl, ⟨.inr (by rw [Lib.byteCells_append]; exact h3), Nat.le_trans hp.2 h4.size⟩, h4, h5⟩
theorem pd_lt {B b : Nat} {s : List UInt8} {w : World} (h : PD B b s w) : b < w.heap.size := by
  rcases h.1 with ⟨_, _, hb, _⟩ | ⟨_, _, hb, _⟩ <;> exact hlt hb
/-- The cells of an expression in a row. -/
theorem ex_cells {F : Nat → Prop} {w : World} {pc : Option Addr} {rows : List (List Value)} {cl : List Ex} (hg : GAt 8 w pc rows) (hls : LsE F w cl rows) {j : Nat} {x : Ex} (hk : cl[j]? = some x) :
    ∃ (op ps : Int) (a b : ByteArray) (s y : Bool) (p p' : Option Addr) (n c n' c' g off : Nat), pc = some ⟨g, off, none⟩ ∧ g < w.heap.size ∧ EAt F w x [.int .i64 op, .string a, .string b, .bool s, .slice p n c, .bool y, .slice p' n' c', .int .i64 ps] ∧
      w.cell? ⟨g, off + j * 8, none⟩ = some (.int .i64 op) ∧ w.cell? ⟨g, off + j * 8 + 1, none⟩ = some (.string a) ∧ w.cell? ⟨g, off + j * 8 + 2, none⟩ = some (.string b) ∧ w.cell? ⟨g, off + j * 8 + 3, none⟩ = some (.bool s) ∧ w.cell? ⟨g, off + j * 8 + 4, none⟩ = some (.slice p n c) ∧ w.cell? ⟨g, off + j * 8 + 5, none⟩ = some (.bool y) ∧ w.cell? ⟨g, off + j * 8 + 6, none⟩ = some (.slice p' n' c') ∧ w.cell? ⟨g, off + j * 8 + 7, none⟩ = some (.int .i64 ps) := by
  obtain ⟨q, hq, he⟩ := Ls_get hls hk
  obtain ⟨g, off, rfl, hgl, hc⟩ := hg.resolve_left (fun e => by rw [e] at hq; simp at hq)
  obtain ⟨op, ps, a, b, s, y, p, p', n, c, n', c', rfl⟩ := he.form
  have hc := hc j _ hq
  have c0 := hc 0 _ rfl
  rw [Nat.add_zero] at c0
  exact ⟨op, ps, a, b, s, y, p, p', n, c, n', c', g, off, rfl, hgl, he, c0, hc 1 _ rfl, hc 2 _ rfl, hc 3 _ rfl, hc 4 _ rfl, hc 5 _ rfl, hc 6 _ rfl, hc 7 _ rfl⟩

set_option maxRecDepth 100000 in
set_option maxHeartbeats 16000000 in
theorem dumpTyped_c (F : Nat → Prop) (B b : Nat) (hF : ∀ k, F k → k < B) (s : List UInt8) (base : Nat) (cl : List Ex) (pc : Option Addr) (cc : Nat) (rows : List (List Value)) (w : World) (hp : PD B b s w) (hb : base < 100) (hg : GAt 8 w pc rows) (hls : LsE F w cl rows) (ha : cl ≠ [] → ∃ a, pc = some a ∧ F a.block)
    (hc : ∀ x ∈ cl, XBd x) (hn : cl.length ≤ 1000000) (hl : Room s (dmpTy base cl).length) :
    Calls Tryz.prog 62 #[.pointer (some ⟨b, 0, none⟩), .int .i64 (base : Int), .slice pc cl.length cc] w (WrPost B b (s ++ dmpTy base cl) w) := by
  have HIT := Lib.hid (fun W => Tryz.strconv_Itoa_small base hb W)
  have HD : Hid ((⟨(Lib.decDigits base).toArray⟩ : ByteArray).data.toList = decN base) := Lib.hid (by rw [← dec_small base hb])
  have hds : (⟨(Lib.decDigits base).toArray⟩ : ByteArray).size ≤ 2 := by
    rw [sz_list HD.out]; exact decN_len base
  generalize (⟨(Lib.decDigits base).toArray⟩ : ByteArray) = dg at *
  have HP := Lib.hid hp; have HC := Lib.hid hc; have HF := Lib.hid hF
  have HR : Hid (s.length + (1 + ((decN base).length + (cl.flatMap dmpE).length)) ≤ 100000000000000) := Lib.hid (by
    unfold Room dmpTy at hl
    simp only [List.length_cons, List.length_append] at hl
    omega)
  have HK := Lib.hid (fun (W : World) (h : Below B w W) => (show GAt 8 W pc rows ∧ LsE F W cl rows from ⟨gat_same (Ls_len hls) hg (fun h0 => ha (List.length_pos_iff.1 h0)) (Fr2.ofBelow h) (fun k hk e => by have := hF k hk; have e : B ≤ k := e; omega), LsE.same (Fr2.ofBelow h) (fun k hk e => by have := hF k hk; have e : B ≤ k := e; omega) hls⟩))
  have HDS : Hid ((decN base).length = dg.size) := Lib.hid (sz_list HD.out).symm
  obtain ⟨n, hn'⟩ : ∃ n, cl.length = n := ⟨_, rfl⟩
  have HN := Lib.hid hn'
  rw [hn'] at hn ⊢
  have hk1 : ¬ 9223372036854775807 < 1 + dg.size := by omega
  clear hp hb hg hls ha hc hl hn' hF
  go_enter Tryz.func62, Tryz.ntmps62
  go_wp2_with fail
  refine (HIT.out _).mono ?_
  rintro e w1 ⟨rfl, rfl⟩
  go_wp2_with fail
  refine (put_c B b s _ _ HP.out (by unfold Room; have := HR.out; have := HDS.out; have e : (⟨#[58]⟩ : ByteArray).size = 1 := rfl; rw [ByteArray.size_append]; omega)).mono ?_
  rintro e w2 ⟨rfl, hp2, hb2, ho2⟩
  have hp2 : PD B b (s ++ (58 :: decN base)) w2 := by
    have e : ((⟨#[58]⟩ : ByteArray) ++ dg).data.toList = 58 :: decN base := by simp [app_list, HD.out]
    rw [← e]; exact hp2
  have HP2 := Lib.hid hp2; have HB2 := Lib.hid hb2; have HO2 := Lib.hid ho2
  clear hp2 hb2 ho2 HIT hk1 hds
  go_wp2_with fail
  go_loopg [15] n (fun gk iv wr => ∃ j : Nat, j ≤ n ∧ iv = .int .i64 (j : Int) ∧ n - j ≤ gk ∧ gk ≤ n ∧ Hid (PD B b (s ++ (58 :: decN base) ++ (cl.take j).flatMap dmpE) wr) ∧ Hid (Below B w1 wr) ∧ Hid (OKept b w1 wr))
  case atStart => exact ⟨0, Nat.zero_le _, rfl, by omega, Nat.le_refl _, Lib.hid (by rw [List.take_zero, List.flatMap_nil, List.append_nil]; exact HP2.out), HB2, HO2⟩
  case round =>
    obtain ⟨j, hj, rfl, hgk, hgm, HPr, HBr, HOr⟩ := hrel
    by_cases hlj : j < n
    · obtain ⟨x, hx⟩ : ∃ x, cl[j]? = some x := ⟨cl[j]'(by rw [HN.out]; exact hlj), List.getElem?_eq_getElem _⟩
      obtain ⟨op, ps, a, b9, s9, y9, p9, p9', n9, c9, n9', c9', g, off, rfl, hgl, hE, c0, c1, c2, c3, c4, c5, c6, c7⟩ := ex_cells (HK.out wr HBr.out).1 (HK.out wr HBr.out).2 hx
      have hbd := HC.out x (List.mem_of_getElem? hx)
      have HDU := Lib.hid (fun W (h : wr.grownBy W none) => Dump_c2 F x _ W (hE.kept h) hbd.small hbd.cnt (by have := hbd.len; omega))
      have HNX : Hid ((cl.take (j + 1)).flatMap dmpE = (cl.take j).flatMap dmpE ++ dmpE x) := Lib.hid (flat_next dmpE hx)
      have HRX : Hid (((cl.take (j + 1)).flatMap dmpE).length ≤ (cl.flatMap dmpE).length) := Lib.hid (flat_take dmpE cl (j + 1))
      have HBW : Hid (B ≤ wr.heap.size) := Lib.hid HPr.out.2
      have i1 : (0 : Int) ≤ (j : Int) := by omega
      have i2 : (j : Int) < (n : Int) := by omega
      have i3 : decide (j < n) = true := decide_eq_true hlj
      have i4 : decide ((j : Int) < (n : Int)) = true := decide_eq_true i2
      clear hx hE hbd
      go_wp2_with fail
      refine (HDU.out _ (World.grownBy_alloc wr _ none)).mono ?_
      rintro e w3 ⟨⟨y, rfl, hy⟩, hg3⟩
      have HG3 := Lib.hid (gb_trans (World.grownBy_alloc wr _ none) hg3)
      have HP3 := Lib.hid (HPr.out.gb HG3.out)
      have HY := Lib.hid hy
      clear hg3 hy c0 c1 c2 c3 c4 c5 c6 c7 HDU
      go_wp2_with fail
      refine (put_c B b _ y _ HP3.out (by
        have h1 := HR.out; have h2 := HRX.out; rw [HNX.out] at h2
        have h3 := sz_list HY.out
        unfold Room
        simp only [List.length_append, List.length_cons] at h2 ⊢
        omega)).mono ?_
      rintro e w4 ⟨rfl, hp4, hb4, ho4⟩
      have HP4 : Hid (PD B b (s ++ (58 :: decN base) ++ (cl.take (j + 1)).flatMap dmpE) w4) := Lib.hid (by rw [HNX.out, ← List.append_assoc, ← HY.out]; exact hp4)
      have HB4 : Hid (Below B w1 w4) := Lib.hid (Below.trans2 HBr.out (Below.trans2 (Below.gb HG3.out HBW.out) hb4))
      have HO4 : Hid (OKept b w1 w4) := Lib.hid (OKept.trans HOr.out (OKept.trans (OKept.none HG3.out) ho4))
      have hjb : n ≤ 1000000 := hn
      have hw9 : IntKind.i64.wrap ((j : Int) + 1) = ((j + 1 : Nat) : Int) := by rw [IntWalk.i64_in _ (by omega)]; omega
      clear hp4 hb4 ho4
      go_wp2_with fail
      go_roundg (n - (j + 1))
      case measure => omega
      case rel => exact ⟨j + 1, by omega, by first | rfl | go_num, Nat.le_refl _, by omega, HP4, HB4, HO4⟩
    · obtain rfl : j = n := by omega
      have hpr := HPr.out
      rw [List.take_of_length_le (by have := HN.out; omega)] at hpr
      have HPE := Lib.hid hpr
      clear hpr
      go_wp2_with fail
      refine bodyPost_end (results_none rfl _ _ _) rfl ?_
      exact ⟨rfl, by unfold dmpTy; rw [show s ++ (58 :: (decN base ++ cl.flatMap dmpE)) = s ++ (58 :: decN base) ++ cl.flatMap dmpE by simp]; exact HPE.out, HBr.out, HOr.out⟩
end Go.Proofs.YtoahgeleenpnjaaGreatDoor
