/- Lemmas. -/
import Derived.Shelf.SlicesQ.Reverse
import Derived.Test.YtijpelkjeejjfaaGreatDoorP21
set_option linter.unusedVariables false
set_option linter.unusedSimpArgs false
namespace Go.Proofs.YtijpelkjeejjfaaGreatDoor
open Go.RowKit

theorem LaidW.same {S : Nat → Prop} {w w' : World} (h : LaidW w) (hf : Fr2 (fun k => ¬ S k) w w') (hS : S 0) (hs : 0 < w.heap.size) : LaidW w' := fun j l hj => by
  rw [World.cell?_of_block (w := w) (hf.block _ hs (fun e => e hS))]; exact h j l hj
theorem argsP_len : ∀ l : List Sx, (argsP l).length ≤ 2 * l.length
  | [] => by simp [argsP]
  | [x] => by simp [argsP]
  | x :: y :: l => by
    have := argsP_len (y :: l)
    simp only [argsP, List.length_cons] at this ⊢; omega
theorem bareP_len {op : Int} {nm md : List UInt8} {nu : Int} {ys : Bool} {ks : List Sx} {ps : Int} (hn : countB op ks.length = true) : (bareP (.mk op nm md nu ys ks ps)).length ≤ 1000 := by
  have ha := argsP_len ks
  simp only [bareP]
  by_cases e24 : op = 24
  · unfold countB at hn
    rw [if_neg (by omega), if_neg (by omega), if_neg (by omega), if_neg (by omega)] at hn
    have hn := of_decide_eq_true hn
    subst e24
    rw [if_neg (by omega), if_neg (by omega), if_neg (by omega), if_neg (by omega), if_neg (by omega), if_neg (by omega), if_neg (by omega), if_neg (by omega), if_neg (by omega), if_pos rfl]
    simp only [List.length_append, List.length_cons, List.length_nil]
    split <;> simp <;> omega
  · rw [if_neg e24]
    repeat' (first | (simp only [List.length_cons, List.length_nil]; omega) | split)
set_option maxRecDepth 100000 in
set_option maxHeartbeats 16000000 in
theorem open_c9 (S F : Nat → Prop) (B b : Nat) (rows : List (List Value)) (fg fo least : Nat) (x : Sx) (q : List Value) (w : World) (h : WrAt S B b w rows) (hl : rows.length ≤ 600000) (hF : ∀ k, F k → S k) (hSg : S 0) (hla : LaidW w)
    (hx : SAt F w x q) (hSf : S fg) (hc : ∀ i v, q[i]? = some v → w.cell? ⟨fg, fo + i, none⟩ = some v)
    (h1 : 1 ≤ x.op) (h2 : x.op ≤ 24) (hn : countB x.op x.ks.length = true) (hok : match x with | .mk _ nm md nu _ _ _ => nm.length ≤ 60000 ∧ md.length ≤ 60000 ∧ nu.natAbs < Zd.Lim) :
    Calls Tryz.prog 42 #[.pointer (some ⟨b, 0, none⟩), .pointer (some ⟨fg, fo, none⟩), .int .i64 least] w (BarePost S F B b rows (openP x least) w) := by
  have HHS : Hid (∀ k, S k → k < w.heap.size) := Lib.hid (by obtain ⟨v, -, -, -, -, -, -, hh⟩ := h; exact hh)
  have c0 : w.cell? ⟨fg, fo, none⟩ = some (.int .i64 x.op) := by
    cases x with
    | mk op nm md nu ys ks ps =>
      have hx2 := hx
      simp only [SAt] at hx2
      obtain ⟨s, pw, nw, cw, pk, ck, kr, rfl, -⟩ := hx2
      exact hc 0 _ rfl
  have HB : Hid (∀ R W, Fr2 (fun k => ¬ S k) w W → WrAt S B b W R → R.length ≤ 700000 → Calls Tryz.prog 62 #[.pointer (some ⟨b, 0, none⟩), .pointer (some ⟨fg, fo, none⟩)] W (BarePost S F B b R (bareP x) W)) := Lib.hid (fun R W hf hW hR => by
    cases x with
    | mk op nm md nu ys ks ps =>
      exact bare_c9 S F B b R fg fo op nm md nu ys ks ps q W hW hR hF hSg (hla.same hf hSg (HHS.out _ hSg)) (hx.same hf (fun k hk e => e (hF k hk))) hSf (fun i v hi => by rw [World.cell?_of_block (w := w) (hf.block _ (HHS.out _ hSf) (fun e => e hSf))]; exact hc i v hi) h1 h2 hn hok.1 hok.2.1 hok.2.2)
  have HLV := Lib.hid (fun W => level_c x.op h1 h2 W)
  have HPUT := Lib.hid (fun rows s W h h2 => put_c9 S B b rows s W h h2)
  have HW := Lib.hid h; have HL := Lib.hid hl; have HF := Lib.hid hF
  have HBL : Hid ((bareP x).length ≤ 1000) := Lib.hid (by cases x with | mk op nm md nu ys ks ps => exact bareP_len hn)
  obtain ⟨P, hP⟩ : ∃ P, bareP x = P := ⟨_, rfl⟩
  obtain ⟨OP, hOP⟩ : ∃ OP, openP x least = OP := ⟨_, rfl⟩
  have HO : Hid (OP = if levS x.op < least then .bs [40] :: P ++ [.bs [41]] else P) := Lib.hid (by rw [← hP, ← hOP]; rfl)
  rw [hP] at HB HBL
  rw [hOP]
  obtain ⟨op, hop⟩ : ∃ op, x.op = op := ⟨_, rfl⟩
  rw [hop] at c0 HLV HO
  obtain ⟨lv, hlv⟩ : ∃ lv, levS op = lv := ⟨_, rfl⟩
  rw [hlv] at HLV HO
  clear h hl hF hSg hla hx hSf hc h1 h2 hn hok hOP hP hop hlv
  go_enter Tryz.func42, Tryz.ntmps42
  go_wp2_with fail
  refine (HLV.out w).mono ?_
  rintro e w1 ⟨rfl, hg1⟩
  have HG1 := Lib.hid hg1
  clear hg1
  have HW1 := Lib.hid (HW.out.kept HG1.out)
  have HF1 : Hid (Fr2 (fun k => ¬ S k) w w1) := Lib.hid (Fr2.none HG1.out)
  by_cases hlt : lv < least
  · have HO2 : Hid (OP = .bs [40] :: (P ++ [.bs [41]])) := Lib.hid (by rw [HO.out, if_pos hlt]; rfl)
    have y1 : decide ((least : Int) ≤ (lv : Int)) = false := decide_eq_false (by omega)
    have y2 : decide ((lv : Int) ≥ (least : Int)) = false := decide_eq_false (by omega)
    have y3 : decide (least ≤ lv) = false := decide_eq_false (by omega)
    clear hlt
    go_wp2_with fail
    refine (HPUT.out _ _ w1 HW1.out (by have := HL.out; omega)).mono ?_
    rintro e w2 ⟨rfl, hw2, hf2⟩
    have HW2 := Lib.hid hw2; have HF2 := Lib.hid (HF1.out.trans hf2)
    clear hw2 hf2
    go_wp2_with fail
    refine (HB.out _ w2 HF2.out HW2.out (by have h := HL.out; simp only [List.length_append, List.length_cons, List.length_nil]; omega)).mono ?_
    rintro e w3 ⟨rfl, R, hw3, hp3, hf3⟩
    have HW3 := Lib.hid hw3; have HP3 := Lib.hid hp3; have HF3 := Lib.hid (HF2.out.trans hf3)
    clear hw3 hf3 hp3
    go_wp2_with fail
    refine (HPUT.out _ _ w3 HW3.out (by have h := HL.out; have h2 := HP3.out.len; have h3 := HBL.out; simp only [List.length_append, List.length_cons, List.length_nil]; omega)).mono ?_
    rintro e w4 ⟨rfl, hw4, hf4⟩
    have HW4 := Lib.hid hw4
    have HP4 := Lib.hid (HP3.out.same hf4 (fun k hk e => e (HF.out k hk)))
    have HF4 := Lib.hid (HF3.out.trans hf4)
    clear hw4 hf4
    go_wp2_with fail
    go_end0
    rw [HO2.out]
    refine ⟨rfl, rowB [40] :: (R ++ [rowB [41]]), ?_, ⟨_, _, rfl, rfl, HP4.out.app ⟨_, [], rfl, rfl, rfl⟩⟩, HF4.out⟩
    have h := HW4.out
    simp only [List.append_assoc, List.cons_append, List.nil_append] at h ⊢
    exact h
  · have HO2 : Hid (OP = P) := Lib.hid (by rw [HO.out, if_neg hlt])
    have y1 : decide ((least : Int) ≤ (lv : Int)) = true := decide_eq_true (by omega)
    have y2 : decide ((lv : Int) ≥ (least : Int)) = true := decide_eq_true (by omega)
    have y3 : decide (least ≤ lv) = true := decide_eq_true (by omega)
    clear hlt
    go_wp2_with fail
    refine (HB.out _ w1 HF1.out HW1.out (by have h := HL.out; omega)).mono ?_
    rintro e w3 ⟨rfl, R, hw3, hp3, hf3⟩
    have HW3 := Lib.hid hw3; have HP3 := Lib.hid hp3; have HF3 := Lib.hid (HF1.out.trans hf3)
    clear hw3 hf3 hp3
    go_wp2_with fail
    go_end0
    rw [HO2.out]
    exact ⟨rfl, R, HW3.out, HP3.out, HF3.out⟩

/-- A piece's three values. -/
abbrev PcV := ByteArray × Option Addr × Int
def encP (x : PcV) : List Value := [.string x.1, .pointer x.2.1, .int .i64 x.2.2]
def revRen : Go.Shelf.Ren := ⟨fun | 35 => 40 | n => n, fun | 22 => 56 | 23 => 94 | n => n, fun | n => n⟩
theorem revLay : SlLaysE0.n35 Tryz.prog revRen := {
  mixed := by kernel_rfl
  f35 := ⟨"slices.Reverse[[]touchstone/show.piece,touchstone/show.piece]", of_decide_eq_true (by kernel_rfl), Tryz.func40.trans (congrArg some (by kernel_rfl))⟩
  t0 := Tryz.underlying0
  a0 := Tryz.isAgg0
  z0 := Tryz.sizeOf0
  v0 := Tryz.zeroValue0
  t3 := Tryz.underlying3
  a3 := Tryz.isAgg3
  z3 := Tryz.sizeOf3
  v3 := Tryz.zeroValue3
  t4 := Tryz.underlying4
  a4 := Tryz.isAgg4
  z4 := Tryz.sizeOf4
  v4 := Tryz.zeroValue4
  t22 := Tryz.underlying56
  a22 := Tryz.isAgg56
  z22 := Tryz.sizeOf56
  v22 := Tryz.zeroValue56 }
theorem encP_len (x : PcV) : (encP x).length = 3 := rfl
theorem encP_one (x : PcV) : ∀ v ∈ encP x, v.oneCell' = true := by
  intro v hv
  simp only [encP, List.mem_cons, List.not_mem_nil, or_false] at hv
  rcases hv with rfl | rfl | rfl <;> rfl
theorem rev_lib (blk off cap : Nat) (d : Array PcV) (w : World) (hH : Go.Sort.HoldsK encP 3 w blk off d) (hsz : d.size ≤ 9223372036854775807) :
    Calls Tryz.prog 40 #[.slice (some ⟨blk, off, none⟩) d.size cap] w fun e w' => e = .returned (.tuple #[]) ∧ ∃ n, w' = Go.Sort.putRowK encP 3 (Go.Sort.ahead w n) blk off d.reverse :=
  AnyQ.slices_Reverse revLay 3 Tryz.isAgg94 Tryz.sizeOf94 encP encP_len encP_one blk off cap d w hH hsz

theorem rv_get : ∀ (d : List PcV) (j : Nat), j < d.length * 3 → (d.map encP).flatten[j]? = some ((encP d[j / 3]!)[j % 3]!)
  | [], j, h => by simp at h
  | x :: d, j, h => by
    simp only [List.map_cons, List.flatten_cons]
    by_cases h3 : j < 3
    · rw [List.getElem?_append_left (by rw [encP_len]; exact h3)]
      have : j = 0 ∨ j = 1 ∨ j = 2 := by omega
      rcases this with rfl | rfl | rfl <;> rfl
    · rw [List.getElem?_append_right (by rw [encP_len]; omega), encP_len]
      rw [rv_get d (j - 3) (by simp only [List.length_cons] at h; omega)]
      have e1 : j / 3 = (j - 3) / 3 + 1 := by omega
      have e2 : j % 3 = (j - 3) % 3 := by omega
      rw [e1, e2]
      rfl
theorem rv_len : ∀ (d : List PcV), (d.map encP).flatten.length = d.length * 3
  | [] => rfl
  | x :: d => by simp only [List.map_cons, List.flatten_cons, List.length_append, rv_len d, encP_len, List.length_cons]; omega
theorem flatK_get (d : List PcV) (j : Nat) (h : j < d.length * 3) : some (Go.Sort.flatK encP 3 d.toArray)[j]! = (d.map encP).flatten[j]? := by
  rw [Go.Sort.get_flatK encP 3 d.toArray j (by simpa using h), rv_get d j h]
  simp
theorem holds_rows {w : World} {g cap n : Nat} {B : Nat} {rows : List (List Value)} {d : List PcV} (hO : OwnG 3 94 w B (.slice (some ⟨g, 0, none⟩) n cap) (rows ++ d.map encP)) : Go.Sort.HoldsK encP 3 w g (rows.length * 3) d.toArray := by
  obtain ⟨⟨hln, ho⟩, hw⟩ := hO
  have hrl : rows.flatten.length = rows.length * 3 := flat_len (s := 3) (fun q hq => hw q (List.mem_append_left _ hq))
  rcases ho with ⟨h, -⟩ | ⟨g', cap', cur, he, hb, hg, h1, h2, h3, h4⟩
  · simp at h
  simp only [Value.slice.injEq, Option.some.injEq, Addr.mk.injEq, and_true] at he
  obtain ⟨rfl, hn, rfl⟩ := he
  intro j hj
  have hj : j < d.length * 3 := by simpa using hj
  have hx : cur[rows.length * 3 + j]? = some ((Go.Sort.flatK encP 3 d.toArray)[j]!) := by
    rw [flatK_get d j hj]
    have h5 : (cur.toList.take ((rows ++ d.map encP).length * 3))[rows.length * 3 + j]? = (d.map encP).flatten[j]? := by
      rw [h4, List.flatten_append, List.getElem?_append_right (by omega), hrl]
      congr 1; omega
    rw [List.getElem?_take, if_pos (by simp only [List.length_append, List.length_map]; omega)] at h5
    rw [← h5]; simp
  refine ⟨?_, ?_⟩
  · rw [cell_of_row w g _ _ _ (0, 0) hg]; exact hx
  · simp [World.frozen?, hg]
theorem put_rows {w : World} {g cap n k : Nat} {B : Nat} {rows : List (List Value)} {d : List PcV} (hO : OwnG 3 94 w B (.slice (some ⟨g, 0, none⟩) n cap) (rows ++ d.map encP)) :
    OwnG 3 94 (Go.Sort.putRowK encP 3 (Go.Sort.ahead w k) g (rows.length * 3) d.toArray.reverse) B (.slice (some ⟨g, 0, none⟩) n cap) (rows ++ d.reverse.map encP) := by
  obtain ⟨⟨hln, ho⟩, hw⟩ := hO
  have hrl : rows.flatten.length = rows.length * 3 := flat_len (s := 3) (fun q hq => hw q (List.mem_append_left _ hq))
  have hlen : (rows ++ d.reverse.map encP).length = (rows ++ d.map encP).length := by simp
  have hw2 : Wid 3 (rows ++ d.reverse.map encP) := fun q hq => by
    rcases List.mem_append.1 hq with h | h
    · exact hw q (List.mem_append_left _ h)
    · obtain ⟨x, hx, rfl⟩ := List.mem_map.1 h
      exact ⟨rfl, encP_one x⟩
  rcases ho with ⟨h, -⟩ | ⟨g', cap', cur, he, hb, hg, h1, h2, h3, h4⟩
  · simp at h
  simp only [Value.slice.injEq, Option.some.injEq, Addr.mk.injEq, and_true] at he
  obtain ⟨rfl, hn, rfl⟩ := he
  refine ⟨⟨flat_len hw2, .inr ⟨g, cap, Go.Sort.putCells id (rows.length * 3) (Go.Sort.flatK encP 3 d.toArray.reverse) cur, by rw [hlen, ← hn], hb, ?_, by rw [hlen]; exact h1, h2, ?_, ?_⟩⟩, hw2⟩
  · simp [Go.Sort.putRowK, Go.Sort.putRow, Go.Sort.mapBlock, Array.getElem?_modify, hg, Go.Sort.onCells]
  · simp only [Go.Sort.putCells, Array.size_mapIdx]; exact h3
  · have hT : (rows ++ d.map encP).length * 3 = rows.length * 3 + d.length * 3 := by simp only [List.length_append, List.length_map]; omega
    rw [hlen, hT]
    apply List.ext_getElem?
    intro j
    rw [List.flatten_append]
    by_cases hj : j < rows.length * 3 + d.length * 3
    · rw [List.getElem?_take, if_pos hj, Array.getElem?_toList]
      have hcj : j < cur.size := by rw [h3]; have := Nat.mul_le_mul_right 3 h1; omega
      have hcur : ((rows ++ d.map encP).flatten)[j]? = cur[j]? := by rw [← h4, List.getElem?_take, if_pos (by omega), Array.getElem?_toList]
      by_cases hr : j < rows.length * 3
      · rw [List.getElem?_append_left (by omega)]
        rw [List.flatten_append, List.getElem?_append_left (by omega)] at hcur
        rw [hcur]
        simp only [Go.Sort.putCells, Array.getElem?_mapIdx]
        rw [Array.getElem?_eq_getElem hcj, Option.map_some, if_neg (by omega)]
      · rw [List.getElem?_append_right (by omega), hrl]
        have e1 : d.toArray.reverse = d.reverse.toArray := by simp
        rw [e1, ← flatK_get d.reverse (j - rows.length * 3) (by simp only [List.length_reverse]; omega)]
        simp only [Go.Sort.putCells, Array.getElem?_mapIdx, Go.Sort.size_flatK, List.size_toArray, List.length_reverse]
        rw [Array.getElem?_eq_getElem hcj, Option.map_some, if_pos (by omega)]
        rfl
    · rw [List.getElem?_take, if_neg hj]
      symm
      apply List.getElem?_eq_none
      rw [List.length_append, hrl, rv_len, List.length_reverse]; omega
theorem put_fr {w : World} {g k off : Nat} {F : Array PcV} {S : Nat → Prop} (hS : S g) : Fr2 S w (Go.Sort.putRowK encP 3 (Go.Sort.ahead w k) g off F) := by
  refine ⟨rfl, rfl, rfl, ?_, fun j hj hn => ?_⟩
  · simp [Go.Sort.putRowK]
  · have hne : g ≠ j := fun e => hn (e ▸ hS)
    simp [Go.Sort.putRowK, Go.Sort.putRow, Go.Sort.mapBlock, Array.getElem?_modify, hne]
theorem rev_c9 (S : Nat → Prop) (B b : Nat) (rows : List (List Value)) (d : List PcV) (g n cap cap' : Nat) (w : World) (h : WrAt S B b w (rows ++ d.map encP)) (c0 : w.cell? ⟨b, 0, none⟩ = some (.slice (some ⟨g, 0, none⟩) n cap)) (hl : d.length ≤ 1000000) :
    Calls Tryz.prog 40 #[.slice (some ⟨g, rows.length * 3, none⟩) d.length cap'] w (PcPost S B b (rows ++ d.reverse.map encP) w) := by
  obtain ⟨v, hb, hO, hbB, hB, hSb, hSv, hSs⟩ := h
  rw [cell_of_row w b 0 _ _ (0, 0) hb] at c0
  have c0 : v = .slice (some ⟨g, 0, none⟩) n cap := Option.some.inj c0
  subst c0
  have hL := rev_lib g (rows.length * 3) cap' d.toArray w (holds_rows hO) (by rw [List.size_toArray]; omega)
  rw [List.size_toArray] at hL
  refine hL.mono ?_
  rintro e w' ⟨rfl, k, rfl⟩
  have hgB : B ≤ g := (hO.at g rfl).1
  have hf : Fr2 (fun k => k = g) w (Go.Sort.putRowK encP 3 (Go.Sort.ahead w k) g (rows.length * 3) d.toArray.reverse) := put_fr rfl
  refine ⟨rfl, ⟨_, ?_, put_rows hO, hbB, Nat.le_trans hB hf.size, hSb, hSv, fun k hk => Nat.lt_of_lt_of_le (hSs k hk) hf.size⟩, hf.mono (fun k e => ?_)⟩
  · rw [hf.block b (hlt hb) (fun e => by have e : b = g := e; omega)]; exact hb
  · have e : k = g := e
    rw [e]; exact hSv g rfl

theorem cells7x {w : World} {r : Nat} {a b c d e f g : Value} {T : TypeId} (h0 : w.heap[r]? = some (.cells #[a, b, c, d, e, f, g] T (0, 0))) : w.cell? ⟨r, 0, none⟩ = some a ∧ w.cell? ⟨r, 1, none⟩ = some b ∧ w.cell? ⟨r, 2, none⟩ = some c ∧ w.cell? ⟨r, 3, none⟩ = some d ∧ w.cell? ⟨r, 4, none⟩ = some e ∧ w.cell? ⟨r, 5, none⟩ = some f ∧ w.cell? ⟨r, 6, none⟩ = some g ∧ r < w.heap.size := by
  refine ⟨?_, ?_, ?_, ?_, ?_, ?_, ?_, hlt h0⟩ <;> (rw [cell_of_row w r _ _ _ (0, 0) h0]; rfl)
/-- An expression of the document's as a value. -/
def rval (op : Int) (nm md : List UInt8) (u : ByteArray) (ys : Bool) (pk : Option Addr) (n ck : Nat) (ps : Int) : Value := .agg #[.int .i64 op, .string ⟨nm.toArray⟩, .string ⟨md.toArray⟩, .string u, .bool ys, .slice pk n ck, .int .i64 ps]
set_option maxRecDepth 100000 in
set_option maxHeartbeats 16000000 in
theorem rnames_c (op : Int) (nm md : List UInt8) (u : ByteArray) (ys : Bool) (pk : Option Addr) (n ck : Nat) (ps : Int) (w : World) (h1 : nm.length ≤ 60000) (h2 : md.length ≤ 60000) :
    Calls Tryz.prog 15 #[rval op nm md u ys pk n ck ps] w (TruePost (namesB op nm md) w) := by
  have HN := Lib.hid (fun W => rplain_c ⟨nm.toArray⟩ W (by show nm.length ≤ 60000; exact h1))
  have HM := Lib.hid (fun W => rplain_c ⟨md.toArray⟩ W (by show md.length ≤ 60000; exact h2))
  have e1 := emp_dec md
  have e2 := emp_dec nm
  obtain ⟨b0, hb0⟩ : ∃ b, decide (nm = []) = b := ⟨_, rfl⟩
  obtain ⟨b1, hb1⟩ : ∃ b, plainB nm = b := ⟨_, rfl⟩
  obtain ⟨b2, hb2⟩ : ∃ b, decide (md = []) = b := ⟨_, rfl⟩
  obtain ⟨b3, hb3⟩ : ∃ b, plainB md = b := ⟨_, rfl⟩
  have HB1 := Lib.hid hb1
  have HB3 := Lib.hid hb3
  unfold namesB rval
  rw [hb2] at e1
  rw [hb0] at e2
  rw [hb0, hb1, hb2, hb3]
  clear h1 h2 hb0 hb1 hb2 hb3
  by_cases hA : op = 3 ∨ op = 22
  · rw [if_pos hA]
    rcases hA with rfl | rfl
    all_goals
      go_enter Tryz.func15, Tryz.ntmps15
      go_wp2_with fail
      refine (HN.out _).mono ?_
      rintro e w1 ⟨rfl, hg⟩
      have HG := Lib.hid (gb_trans (show w.grownBy _ none from (by repeat (first | with_reducible exact gb_refl _ _ | with_reducible refine gb_drew ?_ | with_reducible refine gb_alloc ?_ _))) hg)
      have hbk := bx hg (heap_alloc_new w _)
      obtain ⟨c0, c1, c2, c3, c4, c5, c6, -⟩ := cells7x hbk
      rw [HB1.out]
      clear hg hbk
      cases b1
      all_goals
        go_wp2_with fail
        go_ret
        exact ⟨by simp, HG.out⟩
  · rw [if_neg hA]
    by_cases hB : op = 24
    · subst hB
      rw [if_pos rfl]
      cases b2
      all_goals
        go_enter Tryz.func15, Tryz.ntmps15
        go_wp2_with fail
        refine (HN.out _).mono ?_
        rintro e w1 ⟨rfl, hg⟩
        have HG := Lib.hid (gb_trans (show w.grownBy _ none from (by repeat (first | with_reducible exact gb_refl _ _ | with_reducible refine gb_drew ?_ | with_reducible refine gb_alloc ?_ _))) hg)
        have hbk := bx hg (heap_alloc_new w _)
        obtain ⟨c0, c1, c2, c3, c4, c5, c6, -⟩ := cells7x hbk
        rw [HB1.out]
        clear hg hbk
        cases b1
      focus
        go_wp2_with fail
        go_ret
        exact ⟨by simp, HG.out⟩
      focus
        go_wp2_with fail
        refine (HM.out _).mono ?_
        rintro e w2 ⟨rfl, hg2⟩
        have HG2 := Lib.hid (gb_trans HG.out hg2)
        rw [HB3.out]
        clear hg2
        go_wp2_with fail
        go_ret
        exact ⟨by simp, HG2.out⟩
      all_goals
        go_wp2_with fail
        go_ret
        exact ⟨by simp, HG.out⟩
    · rw [if_neg hB]
      have d3 : (op == 3) = false := beq_eq_false_iff_ne.2 (fun e => hA (.inl e))
      have d22 : (op == 22) = false := beq_eq_false_iff_ne.2 (fun e => hA (.inr e))
      have d24 : (op == 24) = false := beq_eq_false_iff_ne.2 hB
      clear hA hB
      cases b0
      all_goals
        go_enter Tryz.func15, Tryz.ntmps15
        go_wp2_with fail
        go_ret
        exact ⟨by simp, (by repeat (first | with_reducible exact gb_refl _ _ | with_reducible refine gb_drew ?_ | with_reducible refine gb_alloc ?_ _))⟩

set_option maxRecDepth 100000 in
set_option maxHeartbeats 16000000 in
theorem rcount_c (op : Int) (n : Nat) (w : World) : Calls Tryz.prog 16 #[.int .i64 op, .int .i64 n] w (TruePost (countB op n) w) := by
  have k0 := nat_beq n 0; have k1 := nat_beq n 1; have k2 := nat_beq n 2; have k3 := nat_beq n 3; have k8 := nat_ble n 8
  have HK := Lib.hid (And.intro k0 (And.intro k1 (And.intro k2 (And.intro k3 k8))))
  unfold countB
  by_cases h4 : op ≤ 4
  · have d4 : decide (op ≤ 4) = true := decide_eq_true h4
    rw [if_pos h4]
    clear h4 k0 k1 k2 k3 k8
    go_enter Tryz.func16, Tryz.ntmps16
    go_wp2
    go_ret
    exact ⟨by rw [← HK.out.1]; rfl, gb_refl _ _⟩
  have d4 : decide (op ≤ 4) = false := decide_eq_false h4
  rw [if_neg h4]
  by_cases h6 : op ≤ 6
  · have d6 : decide (op ≤ 6) = true := decide_eq_true h6
    rw [if_pos h6]
    clear h4 h6 k0 k1 k2 k3 k8
    go_enter Tryz.func16, Tryz.ntmps16
    go_wp2
    go_ret
    exact ⟨by rw [← HK.out.2.1]; rfl, gb_refl _ _⟩
  have d6 : decide (op ≤ 6) = false := decide_eq_false h6
  rw [if_neg h6]
  by_cases h2 : op ≤ 20 ∨ op = 22 ∨ op = 23
  · rw [if_pos h2]
    by_cases h20 : op ≤ 20
    · have d20 : decide (op ≤ 20) = true := decide_eq_true h20
      clear h4 h6 h2 h20 k0 k1 k2 k3 k8
      go_enter Tryz.func16, Tryz.ntmps16
      go_wp2
      go_ret
      exact ⟨by rw [← HK.out.2.2.1]; rfl, gb_refl _ _⟩
    · have h3 : op = 22 ∨ op = 23 := by omega
      clear h4 h6 h2 h20 k0 k1 k2 k3 k8 d4 d6
      rcases h3 with rfl | rfl
      all_goals
        go_enter Tryz.func16, Tryz.ntmps16
        go_wp2
        go_ret
        exact ⟨by rw [← HK.out.2.2.1]; rfl, gb_refl _ _⟩
  rw [if_neg h2]
  have d20 : decide (op ≤ 20) = false := decide_eq_false (by omega)
  have e22 : (op == 22) = false := beq_eq_false_iff_ne.2 (by omega)
  have e23 : (op == 23) = false := beq_eq_false_iff_ne.2 (by omega)
  by_cases h21 : op = 21
  · subst h21
    rw [if_pos rfl]
    clear h4 h6 h2 k0 k1 k2 k3 k8 d4 d6 d20 e22 e23
    go_enter Tryz.func16, Tryz.ntmps16
    go_wp2
    go_ret
    exact ⟨by rw [← HK.out.2.2.2.1]; rfl, gb_refl _ _⟩
  · rw [if_neg h21]
    have e21 : (op == 21) = false := beq_eq_false_iff_ne.2 h21
    clear h4 h6 h2 h21 k0 k1 k2 k3 k8
    go_enter Tryz.func16, Tryz.ntmps16
    go_wp2
    go_ret
    exact ⟨by rw [← HK.out.2.2.2.2]; rfl, gb_refl _ _⟩
end Go.Proofs.YtijpelkjeejjfaaGreatDoor
