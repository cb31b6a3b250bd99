/- Lemmas. -/
import Derived.Shelf.SlicesQ.Reverse
import Derived.Test.YtddccnpohpaofaaGreatDoorP20
import Derived.Test.YtddccnpohpaofaaGreatDoorP36
set_option linter.unusedVariables false
set_option linter.unusedSimpArgs false
namespace Go.Proofs.YtddccnpohpaofaaGreatDoor
open Go.RowKit

theorem LaidW.same {S : Nat → Prop} {w w' : World} (h : LaidW w) (hf : Fr2 (fun k => ¬ S k) w w') (hS : S 5) (hs : 5 < w.heap.size) : LaidW w' := fun j l hj => by
  rw [World.cell?_of_block (w := w) (hf.block _ hs (fun e => e hS))]; exact h j l hj
theorem argsP_len : ∀ l : List Sx, (argsP l).length ≤ 2 * l.length
  | [] => by simp [argsP]
  | [x] => by simp [argsP]
  | x :: y :: l => by
    have := argsP_len (y :: l)
    simp only [argsP, List.length_cons] at this ⊢; omega
theorem bareP_len {op : Int} {nm md : List UInt8} {nu : Int} {ys : Bool} {ks : List Sx} {ps : Int} (hn : countB op ks.length = true) : (bareP (.mk op nm md nu ys ks ps)).length ≤ 1000 := by
  have ha := argsP_len ks
  simp only [bareP]
  by_cases e24 : op = 24
  · unfold countB at hn
    rw [if_neg (by omega), if_neg (by omega), if_neg (by omega), if_neg (by omega)] at hn
    have hn := of_decide_eq_true hn
    subst e24
    rw [if_neg (by omega), if_neg (by omega), if_neg (by omega), if_neg (by omega), if_neg (by omega), if_neg (by omega), if_neg (by omega), if_neg (by omega), if_neg (by omega), if_pos rfl]
    simp only [List.length_append, List.length_cons, List.length_nil]
    split <;> simp <;> omega
  · rw [if_neg e24]
    repeat' (first | (simp only [List.length_cons, List.length_nil]; omega) | split)
set_option maxRecDepth 100000 in
set_option maxHeartbeats 16000000 in
theorem open_c9 (S F : Nat → Prop) (B b : Nat) (rows : List (List Value)) (fg fo least : Nat) (x : Sx) (q : List Value) (w : World) (h : WrAt S B b w rows) (hl : rows.length ≤ 600000) (hF : ∀ k, F k → S k) (hSg : S 5) (hla : LaidW w)
    (hx : SAt F w x q) (hSf : S fg) (hc : ∀ i v, q[i]? = some v → w.cell? ⟨fg, fo + i, none⟩ = some v)
    (h1 : 1 ≤ x.op) (h2 : x.op ≤ 24) (hn : countB x.op x.ks.length = true) (hok : match x with | .mk _ nm md nu _ _ _ => nm.length ≤ 60000 ∧ md.length ≤ 60000 ∧ nu.natAbs < Zd.Lim) :
    Calls Tryz.prog 63 #[.pointer (some ⟨b, 0, none⟩), .pointer (some ⟨fg, fo, none⟩), .int .i64 least] w (BarePost S F B b rows (openP x least) w) := by
  have HHS : Hid (∀ k, S k → k < w.heap.size) := Lib.hid (by obtain ⟨v, -, -, -, -, -, -, hh⟩ := h; exact hh)
  have c0 : w.cell? ⟨fg, fo, none⟩ = some (.int .i64 x.op) := by
    cases x with
    | mk op nm md nu ys ks ps =>
      have hx2 := hx
      simp only [SAt] at hx2
      obtain ⟨s, pw, nw, cw, pk, ck, kr, rfl, -⟩ := hx2
      exact hc 0 _ rfl
  have HB : Hid (∀ R W, Fr2 (fun k => ¬ S k) w W → WrAt S B b W R → R.length ≤ 700000 → Calls Tryz.prog 95 #[.pointer (some ⟨b, 0, none⟩), .pointer (some ⟨fg, fo, none⟩)] W (BarePost S F B b R (bareP x) W)) := Lib.hid (fun R W hf hW hR => by
    cases x with
    | mk op nm md nu ys ks ps =>
      exact bare_c9 S F B b R fg fo op nm md nu ys ks ps q W hW hR hF hSg (hla.same hf hSg (HHS.out _ hSg)) (hx.same hf (fun k hk e => e (hF k hk))) hSf (fun i v hi => by rw [World.cell?_of_block (w := w) (hf.block _ (HHS.out _ hSf) (fun e => e hSf))]; exact hc i v hi) h1 h2 hn hok.1 hok.2.1 hok.2.2)
  have HLV := Lib.hid (fun W => level_c x.op h1 h2 W)
  have HPUT := Lib.hid (fun rows s W h h2 => put_c9 S B b rows s W h h2)
  have HW := Lib.hid h; have HL := Lib.hid hl; have HF := Lib.hid hF
  have HBL : Hid ((bareP x).length ≤ 1000) := Lib.hid (by cases x with | mk op nm md nu ys ks ps => exact bareP_len hn)
  obtain ⟨P, hP⟩ : ∃ P, bareP x = P := ⟨_, rfl⟩
  obtain ⟨OP, hOP⟩ : ∃ OP, openP x least = OP := ⟨_, rfl⟩
  have HO : Hid (OP = if levS x.op < least then .bs [40] :: P ++ [.bs [41]] else P) := Lib.hid (by rw [← hP, ← hOP]; rfl)
  rw [hP] at HB HBL
  rw [hOP]
  obtain ⟨op, hop⟩ : ∃ op, x.op = op := ⟨_, rfl⟩
  rw [hop] at c0 HLV HO
  obtain ⟨lv, hlv⟩ : ∃ lv, levS op = lv := ⟨_, rfl⟩
  rw [hlv] at HLV HO
  clear h hl hF hSg hla hx hSf hc h1 h2 hn hok hOP hP hop hlv
  go_enter Tryz.func63, Tryz.ntmps63
  go_wp2_with fail
  refine (HLV.out w).mono ?_
  rintro e w1 ⟨rfl, hg1⟩
  have HG1 := Lib.hid hg1
  clear hg1
  have HW1 := Lib.hid (HW.out.kept HG1.out)
  have HF1 : Hid (Fr2 (fun k => ¬ S k) w w1) := Lib.hid (Fr2.none HG1.out)
  by_cases hlt : lv < least
  · have HO2 : Hid (OP = .bs [40] :: (P ++ [.bs [41]])) := Lib.hid (by rw [HO.out, if_pos hlt]; rfl)
    have y1 : decide ((least : Int) ≤ (lv : Int)) = false := decide_eq_false (by omega)
    have y2 : decide ((lv : Int) ≥ (least : Int)) = false := decide_eq_false (by omega)
    have y3 : decide (least ≤ lv) = false := decide_eq_false (by omega)
    clear hlt
    go_wp2_with fail
    refine (HPUT.out _ _ w1 HW1.out (by have := HL.out; omega)).mono ?_
    rintro e w2 ⟨rfl, hw2, hf2⟩
    have HW2 := Lib.hid hw2; have HF2 := Lib.hid (HF1.out.trans hf2)
    clear hw2 hf2
    go_wp2_with fail
    refine (HB.out _ w2 HF2.out HW2.out (by have h := HL.out; simp only [List.length_append, List.length_cons, List.length_nil]; omega)).mono ?_
    rintro e w3 ⟨rfl, R, hw3, hp3, hf3⟩
    have HW3 := Lib.hid hw3; have HP3 := Lib.hid hp3; have HF3 := Lib.hid (HF2.out.trans hf3)
    clear hw3 hf3 hp3
    go_wp2_with fail
    refine (HPUT.out _ _ w3 HW3.out (by have h := HL.out; have h2 := HP3.out.len; have h3 := HBL.out; simp only [List.length_append, List.length_cons, List.length_nil]; omega)).mono ?_
    rintro e w4 ⟨rfl, hw4, hf4⟩
    have HW4 := Lib.hid hw4
    have HP4 := Lib.hid (HP3.out.same hf4 (fun k hk e => e (HF.out k hk)))
    have HF4 := Lib.hid (HF3.out.trans hf4)
    clear hw4 hf4
    go_wp2_with fail
    go_end0
    rw [HO2.out]
    refine ⟨rfl, rowB [40] :: (R ++ [rowB [41]]), ?_, ⟨_, _, rfl, rfl, HP4.out.app ⟨_, [], rfl, rfl, rfl⟩⟩, HF4.out⟩
    have h := HW4.out
    simp only [List.append_assoc, List.cons_append, List.nil_append] at h ⊢
    exact h
  · have HO2 : Hid (OP = P) := Lib.hid (by rw [HO.out, if_neg hlt])
    have y1 : decide ((least : Int) ≤ (lv : Int)) = true := decide_eq_true (by omega)
    have y2 : decide ((lv : Int) ≥ (least : Int)) = true := decide_eq_true (by omega)
    have y3 : decide (least ≤ lv) = true := decide_eq_true (by omega)
    clear hlt
    go_wp2_with fail
    refine (HB.out _ w1 HF1.out HW1.out (by have h := HL.out; omega)).mono ?_
    rintro e w3 ⟨rfl, R, hw3, hp3, hf3⟩
    have HW3 := Lib.hid hw3; have HP3 := Lib.hid hp3; have HF3 := Lib.hid (HF1.out.trans hf3)
    clear hw3 hf3 hp3
    go_wp2_with fail
    go_end0
    rw [HO2.out]
    exact ⟨rfl, R, HW3.out, HP3.out, HF3.out⟩

/-- A piece's three values. -/
abbrev PcV := ByteArray × Option Addr × Int
def encP (x : PcV) : List Value := [.string x.1, .pointer x.2.1, .int .i64 x.2.2]
def revRen : Go.Shelf.Ren := ⟨fun | 35 => 62 | n => n, fun | 22 => 90 | 23 => 130 | n => n, fun | n => n⟩
theorem revLay : SlLaysE0.n35 Tryz.prog revRen := {
  mixed := by kernel_rfl
  f35 := ⟨"slices.Reverse[[]touchstone/show.piece,touchstone/show.piece]", of_decide_eq_true (by kernel_rfl), Tryz.func62.trans (congrArg some (by kernel_rfl))⟩
  t0 := Tryz.underlying0
  a0 := Tryz.isAgg0
  z0 := Tryz.sizeOf0
  v0 := Tryz.zeroValue0
  t3 := Tryz.underlying3
  a3 := Tryz.isAgg3
  z3 := Tryz.sizeOf3
  v3 := Tryz.zeroValue3
  t4 := Tryz.underlying4
  a4 := Tryz.isAgg4
  z4 := Tryz.sizeOf4
  v4 := Tryz.zeroValue4
  t22 := Tryz.underlying90
  a22 := Tryz.isAgg90
  z22 := Tryz.sizeOf90
  v22 := Tryz.zeroValue90 }
theorem encP_len (x : PcV) : (encP x).length = 3 := rfl
theorem encP_one (x : PcV) : ∀ v ∈ encP x, v.oneCell' = true := by
  intro v hv
  simp only [encP, List.mem_cons, List.not_mem_nil, or_false] at hv
  rcases hv with rfl | rfl | rfl <;> rfl
theorem rev_lib (blk off cap : Nat) (d : Array PcV) (w : World) (hH : Go.Sort.HoldsK encP 3 w blk off d) (hsz : d.size ≤ 9223372036854775807) :
    Calls Tryz.prog 62 #[.slice (some ⟨blk, off, none⟩) d.size cap] w fun e w' => e = .returned (.tuple #[]) ∧ ∃ n, w' = Go.Sort.putRowK encP 3 (Go.Sort.ahead w n) blk off d.reverse :=
  AnyQ.slices_Reverse revLay 3 Tryz.isAgg130 Tryz.sizeOf130 encP encP_len encP_one blk off cap d w hH hsz

theorem rv_get : ∀ (d : List PcV) (j : Nat), j < d.length * 3 → (d.map encP).flatten[j]? = some ((encP d[j / 3]!)[j % 3]!)
  | [], j, h => by simp at h
  | x :: d, j, h => by
    simp only [List.map_cons, List.flatten_cons]
    by_cases h3 : j < 3
    · rw [List.getElem?_append_left (by rw [encP_len]; exact h3)]
      have : j = 0 ∨ j = 1 ∨ j = 2 := by omega
      rcases this with rfl | rfl | rfl <;> rfl
    · rw [List.getElem?_append_right (by rw [encP_len]; omega), encP_len]
      rw [rv_get d (j - 3) (by simp only [List.length_cons] at h; omega)]
      have e1 : j / 3 = (j - 3) / 3 + 1 := by omega
      have e2 : j % 3 = (j - 3) % 3 := by omega
      rw [e1, e2]
      rfl
theorem rv_len : ∀ (d : List PcV), (d.map encP).flatten.length = d.length * 3
  | [] => rfl
  | x :: d => by simp only [List.map_cons, List.flatten_cons, List.length_append, rv_len d, encP_len, List.length_cons]; omega
theorem flatK_get (d : List PcV) (j : Nat) (h : j < d.length * 3) : some (Go.Sort.flatK encP 3 d.toArray)[j]! = (d.map encP).flatten[j]? := by
  rw [Go.Sort.get_flatK encP 3 d.toArray j (by simpa using h), rv_get d j h]
  simp
theorem holds_rows {w : World} {g cap n : Nat} {B : Nat} {rows : List (List Value)} {d : List PcV} (hO : OwnG 3 130 w B (.slice (some ⟨g, 0, none⟩) n cap) (rows ++ d.map encP)) : Go.Sort.HoldsK encP 3 w g (rows.length * 3) d.toArray := by
  obtain ⟨⟨hln, ho⟩, hw⟩ := hO
  have hrl : rows.flatten.length = rows.length * 3 := flat_len (s := 3) (fun q hq => hw q (List.mem_append_left _ hq))
  rcases ho with ⟨h, -⟩ | ⟨g', cap', cur, he, hb, hg, h1, h2, h3, h4⟩
  · simp at h
  simp only [Value.slice.injEq, Option.some.injEq, Addr.mk.injEq, and_true] at he
  obtain ⟨rfl, hn, rfl⟩ := he
  intro j hj
  have hj : j < d.length * 3 := by simpa using hj
  have hx : cur[rows.length * 3 + j]? = some ((Go.Sort.flatK encP 3 d.toArray)[j]!) := by
    rw [flatK_get d j hj]
    have h5 : (cur.toList.take ((rows ++ d.map encP).length * 3))[rows.length * 3 + j]? = (d.map encP).flatten[j]? := by
      rw [h4, List.flatten_append, List.getElem?_append_right (by omega), hrl]
      congr 1; omega
    rw [List.getElem?_take, if_pos (by simp only [List.length_append, List.length_map]; omega)] at h5
    rw [← h5]; simp
  refine ⟨?_, ?_⟩
  · rw [cell_of_row w g _ _ _ (0, 0) hg]; exact hx
  · simp [World.frozen?, hg]
theorem put_rows {w : World} {g cap n k : Nat} {B : Nat} {rows : List (List Value)} {d : List PcV} (hO : OwnG 3 130 w B (.slice (some ⟨g, 0, none⟩) n cap) (rows ++ d.map encP)) :
    OwnG 3 130 (Go.Sort.putRowK encP 3 (Go.Sort.ahead w k) g (rows.length * 3) d.toArray.reverse) B (.slice (some ⟨g, 0, none⟩) n cap) (rows ++ d.reverse.map encP) := by
  obtain ⟨⟨hln, ho⟩, hw⟩ := hO
  have hrl : rows.flatten.length = rows.length * 3 := flat_len (s := 3) (fun q hq => hw q (List.mem_append_left _ hq))
  have hlen : (rows ++ d.reverse.map encP).length = (rows ++ d.map encP).length := by simp
  have hw2 : Wid 3 (rows ++ d.reverse.map encP) := fun q hq => by
    rcases List.mem_append.1 hq with h | h
    · exact hw q (List.mem_append_left _ h)
    · obtain ⟨x, hx, rfl⟩ := List.mem_map.1 h
      exact ⟨rfl, encP_one x⟩
  rcases ho with ⟨h, -⟩ | ⟨g', cap', cur, he, hb, hg, h1, h2, h3, h4⟩
  · simp at h
  simp only [Value.slice.injEq, Option.some.injEq, Addr.mk.injEq, and_true] at he
  obtain ⟨rfl, hn, rfl⟩ := he
  refine ⟨⟨flat_len hw2, .inr ⟨g, cap, Go.Sort.putCells id (rows.length * 3) (Go.Sort.flatK encP 3 d.toArray.reverse) cur, by rw [hlen, ← hn], hb, ?_, by rw [hlen]; exact h1, h2, ?_, ?_⟩⟩, hw2⟩
  · simp [Go.Sort.putRowK, Go.Sort.putRow, Go.Sort.mapBlock, Array.getElem?_modify, hg, Go.Sort.onCells]
  · simp only [Go.Sort.putCells, Array.size_mapIdx]; exact h3
  · have hT : (rows ++ d.map encP).length * 3 = rows.length * 3 + d.length * 3 := by simp only [List.length_append, List.length_map]; omega
    rw [hlen, hT]
    apply List.ext_getElem?
    intro j
    rw [List.flatten_append]
    by_cases hj : j < rows.length * 3 + d.length * 3
    · rw [List.getElem?_take, if_pos hj, Array.getElem?_toList]
      have hcj : j < cur.size := by rw [h3]; have := Nat.mul_le_mul_right 3 h1; omega
      have hcur : ((rows ++ d.map encP).flatten)[j]? = cur[j]? := by rw [← h4, List.getElem?_take, if_pos (by omega), Array.getElem?_toList]
      by_cases hr : j < rows.length * 3
      · rw [List.getElem?_append_left (by omega)]
        rw [List.flatten_append, List.getElem?_append_left (by omega)] at hcur
        rw [hcur]
        simp only [Go.Sort.putCells, Array.getElem?_mapIdx]
        rw [Array.getElem?_eq_getElem hcj, Option.map_some, if_neg (by omega)]
      · rw [List.getElem?_append_right (by omega), hrl]
        have e1 : d.toArray.reverse = d.reverse.toArray := by simp
        rw [e1, ← flatK_get d.reverse (j - rows.length * 3) (by simp only [List.length_reverse]; omega)]
        simp only [Go.Sort.putCells, Array.getElem?_mapIdx, Go.Sort.size_flatK, List.size_toArray, List.length_reverse]
        rw [Array.getElem?_eq_getElem hcj, Option.map_some, if_pos (by omega)]
        rfl
    · rw [List.getElem?_take, if_neg hj]
      symm
      apply List.getElem?_eq_none
      rw [List.length_append, hrl, rv_len, List.length_reverse]; omega
theorem put_fr {w : World} {g k off : Nat} {F : Array PcV} {S : Nat → Prop} (hS : S g) : Fr2 S w (Go.Sort.putRowK encP 3 (Go.Sort.ahead w k) g off F) := by
  refine ⟨rfl, rfl, rfl, ?_, fun j hj hn => ?_⟩
  · simp [Go.Sort.putRowK]
  · have hne : g ≠ j := fun e => hn (e ▸ hS)
    simp [Go.Sort.putRowK, Go.Sort.putRow, Go.Sort.mapBlock, Array.getElem?_modify, hne]
theorem rev_c9 (S : Nat → Prop) (B b : Nat) (rows : List (List Value)) (d : List PcV) (g n cap cap' : Nat) (w : World) (h : WrAt S B b w (rows ++ d.map encP)) (c0 : w.cell? ⟨b, 0, none⟩ = some (.slice (some ⟨g, 0, none⟩) n cap)) (hl : d.length ≤ 1000000) :
    Calls Tryz.prog 62 #[.slice (some ⟨g, rows.length * 3, none⟩) d.length cap'] w (PcPost S B b (rows ++ d.reverse.map encP) w) := by
  obtain ⟨v, hb, hO, hbB, hB, hSb, hSv, hSs⟩ := h
  rw [cell_of_row w b 0 _ _ (0, 0) hb] at c0
  have c0 : v = .slice (some ⟨g, 0, none⟩) n cap := Option.some.inj c0
  subst c0
  have hL := rev_lib g (rows.length * 3) cap' d.toArray w (holds_rows hO) (by rw [List.size_toArray]; omega)
  rw [List.size_toArray] at hL
  refine hL.mono ?_
  rintro e w' ⟨rfl, k, rfl⟩
  have hgB : B ≤ g := (hO.at g rfl).1
  have hf : Fr2 (fun k => k = g) w (Go.Sort.putRowK encP 3 (Go.Sort.ahead w k) g (rows.length * 3) d.toArray.reverse) := put_fr rfl
  refine ⟨rfl, ⟨_, ?_, put_rows hO, hbB, Nat.le_trans hB hf.size, hSb, hSv, fun k hk => Nat.lt_of_lt_of_le (hSs k hk) hf.size⟩, hf.mono (fun k e => ?_)⟩
  · rw [hf.block b (hlt hb) (fun e => by have e : b = g := e; omega)]; exact hb
  · have e : k = g := e
    rw [e]; exact hSv g rfl

theorem pcs_enc {F : Nat → Prop} {w : World} : ∀ {l : List Pc} {r : List (List Value)}, PcsAt F w l r → ∃ d : List PcV, r = d.map encP ∧ d.length = l.length
  | [], r, h => by have h : r = [] := h; subst h; exact ⟨[], rfl, rfl⟩
  | p :: l, r, h => by
    obtain ⟨q, r', rfl, h3, h4⟩ := h
    obtain ⟨d, rfl, hd⟩ := pcs_enc h4
    cases p with
    | bs s =>
      have h3 : q = rowB s := h3
      subst h3
      exact ⟨(⟨s.toArray⟩, none, 0) :: d, rfl, by simp [hd]⟩
    | ex x least =>
      obtain ⟨g, o, q', rfl, -⟩ := h3
      exact ⟨(⟨#[]⟩, some ⟨g, o, none⟩, (least : Int)) :: d, rfl, by simp [hd]⟩
theorem PcsAt.rev {F : Nat → Prop} {w : World} : ∀ {l : List Pc} {r : List (List Value)}, PcsAt F w l r → PcsAt F w l.reverse r.reverse
  | [], r, h => by have h : r = [] := h; subst h; rfl
  | p :: l, r, h => by
    obtain ⟨q, r', rfl, h3, h4⟩ := h
    rw [List.reverse_cons, List.reverse_cons]
    exact PcsAt.app (PcsAt.rev h4) ⟨q, [], rfl, h3, rfl⟩
theorem PcsAt.split {F : Nat → Prop} {w : World} : ∀ {l l2 : List Pc} {r : List (List Value)}, PcsAt F w (l ++ l2) r → ∃ r1 r2, r = r1 ++ r2 ∧ PcsAt F w l r1 ∧ PcsAt F w l2 r2
  | [], l2, r, h => ⟨[], r, rfl, rfl, h⟩
  | p :: l, l2, r, h => by
    obtain ⟨q, r', rfl, h3, h4⟩ := h
    obtain ⟨r1, r2, rfl, h5, h6⟩ := PcsAt.split h4
    exact ⟨q :: r1, r2, rfl, ⟨q, r1, rfl, h3, h5⟩, h6⟩
/-- The last row taken off. -/
theorem WrAt.pop {S : Nat → Prop} {B b g n cap : Nat} {w : World} {rows : List (List Value)} {q : List Value} (h : WrAt S B b w (rows ++ [q])) (c0 : w.cell? ⟨b, 0, none⟩ = some (.slice (some ⟨g, 0, none⟩) n cap)) :
    WrAt S B b (w.setCell ⟨b, 0, none⟩ (.slice (some ⟨g, 0, none⟩) rows.length cap)) rows ∧ Fr2 (fun k => ¬ S k) w (w.setCell ⟨b, 0, none⟩ (.slice (some ⟨g, 0, none⟩) rows.length cap)) := by
  obtain ⟨v, hb, hO, hbB, hB, hSb, hSv, hSs⟩ := h
  rw [cell_of_row w b 0 _ _ (0, 0) hb] at c0
  have c0 : v = .slice (some ⟨g, 0, none⟩) n cap := Option.some.inj c0
  subst c0
  have hgB : B ≤ g := (hO.at g rfl).1
  have hf : Fr2 (fun k => k = b) w (w.setCell ⟨b, 0, none⟩ (.slice (some ⟨g, 0, none⟩) rows.length cap)) := Fr2.setCell (S := fun k => k = b) (Fr2.refl _ _) rfl _
  obtain ⟨⟨hln, ho⟩, hw⟩ := hO
  have hw2 : Wid 3 rows := fun q hq => hw q (List.mem_append_left _ hq)
  have hrl : rows.flatten.length = rows.length * 3 := flat_len hw2
  rcases ho with ⟨h, -⟩ | ⟨g', cap', cur, he, hb1, hg, h1, h2, h3, h4⟩
  · simp at h
  simp only [Value.slice.injEq, Option.some.injEq, Addr.mk.injEq, and_true] at he
  obtain ⟨rfl, hn, rfl⟩ := he
  have hl1 : (rows ++ [q]).length = rows.length + 1 := by simp
  rw [hl1] at h1 h4
  have hO2 : OwnG 3 130 w B (.slice (some ⟨g, 0, none⟩) rows.length cap) rows := by
    refine ⟨⟨hrl, .inr ⟨g, cap, cur, rfl, hb1, hg, by omega, h2, h3, ?_⟩⟩, hw2⟩
    have h5 := congrArg (List.take (rows.length * 3)) h4
    rw [List.take_take, List.flatten_append, List.take_append_of_le_length (by omega), List.take_of_length_le (l := rows.flatten) (by omega)] at h5
    rw [← h5]; congr 1; omega
  refine ⟨⟨_, box1 hb, hO2.keptF hf (fun k hk e => by have e2 : g = k := Option.some.inj (show some g = some k from hk); have e : k = b := e; omega), hbB, Nat.le_trans hB hf.size, hSb, fun k hk => hSv k hk, fun k hk => Nat.lt_of_lt_of_le (hSs k hk) hf.size⟩, hf.mono (fun k e => ?_)⟩
  have e : k = b := e
  rw [e]; exact hSb
/-- What the box of a writer with rows holds. -/
theorem WrAt.cell {S : Nat → Prop} {B b : Nat} {w : World} {rows : List (List Value)} (h : WrAt S B b w rows) (h0 : rows ≠ []) : ∃ g cap, w.cell? ⟨b, 0, none⟩ = some (.slice (some ⟨g, 0, none⟩) rows.length cap) ∧ B ≤ g ∧ g < w.heap.size ∧ ¬ S g ∧ b < B ∧ rows.length ≤ cap ∧ ∀ j, w.frozen? ⟨b, j, none⟩ = false := by
  obtain ⟨v, hb, hO, hbB, hB, hSb, hSv, hSs⟩ := h
  obtain ⟨⟨hln, ho⟩, hw⟩ := hO
  rcases ho with ⟨-, h⟩ | ⟨g, cap, cur, rfl, hb1, hg, h1, h2, h3, h4⟩
  · exact absurd (List.eq_nil_of_length_eq_zero h) h0
  · exact ⟨g, cap, by rw [cell_of_row w b 0 _ _ (0, 0) hb]; rfl, hb1, hlt hg, hSv g rfl, hbB, h1, fun j => by simp [World.frozen?, hb]⟩

abbrev BldI (bb : Nat) (out : List Value) (w : World) : Prop := Lib.IsBuilder 75 5 bb bb out w
theorem WrAt.bld {S : Nat → Prop} {B b bb : Nat} {w : World} {R : List (List Value)} {out : List Value} (h : WrAt S B b w R) (hp : BldI bb out w) :
    ∃ S2 : Nat → Prop, (∀ k, S k → S2 k) ∧ WrAt S2 B b w R ∧ ∀ w', Fr2 (fun k => ¬ S2 k) w w' → BldI bb out w' := by
  have hv : ∃ p v, w.heap[bb]? = some (.cells #[p, v] 75 (0, 0)) ∧ w.ownsRow bb 5 1 v out.length out ∧ v.ownBlock ≠ some bb ∧ (p = .pointer none ∨ p = .pointer (some ⟨bb, 0, none⟩)) := by
    rcases hp with ⟨-, v, h1, h2, h3⟩ | ⟨-, v, h1, h2, h3⟩
    · exact ⟨_, v, h1, h2, h3, .inl rfl⟩
    · exact ⟨_, v, h1, h2, h3, .inr rfl⟩
  obtain ⟨p, v, h1, h2, h3, h4⟩ := hv
  obtain ⟨u, hb, hO, hbB, hB, hSb, hSv, hSs⟩ := h
  refine ⟨fun k => S k ∨ k = bb ∨ v.ownBlock = some k, fun k hk => .inl hk, ⟨u, hb, hO, hbB, hB, fun e => ?_, fun k hk e => ?_, fun k hk => ?_⟩, fun w' hf => ?_⟩
  · rcases e with e | e | e
    · exact hSb e
    · subst e; rw [hb] at h1; simp at h1
    · exact Lib.ownBlock_ne h2 hb (by decide) e
  · obtain ⟨⟨-, ho⟩, -⟩ := hO
    rcases ho with ⟨rfl, -⟩ | ⟨g, cap, cur, rfl, -, hg, -⟩
    · simp [Value.ownBlock] at hk
    · have e2 : g = k := Option.some.inj (show some g = some k from hk)
      subst e2
      rcases e with e | e | e
      · exact hSv _ rfl e
      · subst e; rw [hg] at h1; simp at h1
      · exact Lib.ownBlock_ne h2 hg (by decide) e
  · rcases hk with hk | hk | hk
    · exact hSs k hk
    · subst hk; exact hlt h1
    · exact (h2.lt k hk).2
  · have h5 : w'.heap[bb]? = some (.cells #[p, v] 75 (0, 0)) := by rw [hf.block bb (hlt h1) (fun e => e (.inr (.inl rfl)))]; exact h1
    have h6 : w'.ownsRow bb 5 1 v out.length out := by
      refine ⟨h2.1, h2.2.imp id fun ⟨g, cap, cur, e, hh, hg, r⟩ => ⟨g, cap, cur, e, hh, ?_, r⟩⟩
      rw [hf.block g (hlt hg) (fun e9 => e9 (.inr (.inr (by rw [e]; rfl))))]; exact hg
    rcases h4 with rfl | rfl
    · exact .inl ⟨Nat.le_refl _, v, h5, h6, h3⟩
    · exact .inr ⟨Nat.le_refl _, v, h5, h6, h3⟩
theorem WrAt.wrote {S : Nat → Prop} {B b bb : Nat} {w w' : World} {R : List (List Value)} (h : WrAt S B b w R) (hk : OKept bb w w') (hl : Below bb w w') (hb9 : (w.heap[bb]?).isSome → ∃ p v, w.heap[bb]? = some (.cells #[p, v] 75 (0, 0))) : WrAt S B b w' R := by
  obtain ⟨u, hb, hO, hbB, hB, hSb, hSv, hSs⟩ := h
  have hbb : b ≠ bb := fun e => by subst e; obtain ⟨p, v, h⟩ := hb9 (by rw [hb]; rfl); rw [hb] at h; simp at h
  refine ⟨u, hk b _ _ hb (by decide) hbb, ⟨⟨hO.1.1, hO.1.2.imp id fun ⟨g, cap, cur, e, hh, hg, r⟩ => ⟨g, cap, cur, e, hh, ?_, r⟩⟩, hO.2⟩, hbB, Nat.le_trans hB hl.size, hSb, hSv, fun k hk => Nat.lt_of_lt_of_le (hSs k hk) hl.size⟩
  exact hk g _ _ hg (by decide) (fun e9 => by subst e9; obtain ⟨p, v, h⟩ := hb9 (by rw [hg]; rfl); rw [hg] at h; simp at h)
theorem BldI.cells {bb : Nat} {out : List Value} {w : World} (hp : BldI bb out w) : ∃ p v, w.heap[bb]? = some (.cells #[p, v] 75 (0, 0)) := by
  rcases hp with ⟨-, v, h1, -⟩ | ⟨-, v, h1, -⟩
  · exact ⟨_, v, h1⟩
  · exact ⟨_, v, h1⟩
theorem fr_below {S : Nat → Prop} {bb : Nat} {w w' : World} (h : Below bb w w') (hS : ∀ k, S k → k < bb) : Fr2 (fun k => ¬ S k) w w' :=
  ⟨h.os, h.tape, h.output, h.size, fun k _ hn => h.block k (Classical.byContradiction fun e => hn (fun hk => e (hS k hk)))⟩

mutual
/-- Seven cells read as an expression of the document's, of any Op; all its memory lies in F. -/
def RSt (F : Nat → Prop) (w : World) : Sx → List Value → Prop
  | .mk op nm md nu ys ks ps, q => ∃ pk ck rows, q = [.int .i64 op, strV nm, strV md, strV (Zd.txtL nu), .bool ys, .slice pk ks.length ck, .int .i64 ps] ∧ GAt 7 w pk rows ∧ LsU F w ks rows ∧ (ks ≠ [] → ∃ a, pk = some a ∧ F a.block)
def LsU (F : Nat → Prop) (w : World) : List Sx → List (List Value) → Prop
  | [], r => r = []
  | x :: l, r => ∃ q r', r = q :: r' ∧ RSt F w x q ∧ LsU F w l r'
end
theorem RSt.len {F : Nat → Prop} {w : World} : ∀ {x : Sx} {q : List Value}, RSt F w x q → q.length = 7
  | .mk op nm md nu ys ks ps, q, h => by
    simp only [RSt] at h
    obtain ⟨pk, ck, rows, rfl, -⟩ := h
    rfl
theorem LsU.len {F : Nat → Prop} {w : World} : ∀ {l : List Sx} {r : List (List Value)}, LsU F w l r → r.length = l.length
  | [], r, h => by simp only [LsU] at h; rw [h]; rfl
  | x :: l, r, h => by
    simp only [LsU] at h
    obtain ⟨q, r', rfl, -, h2⟩ := h
    rw [List.length_cons, LsU.len h2]; rfl
theorem LsU.snoc {F : Nat → Prop} {w : World} {x : Sx} {q : List Value} (hx : RSt F w x q) : ∀ {l : List Sx} {r : List (List Value)}, LsU F w l r → LsU F w (l ++ [x]) (r ++ [q])
  | [], r, h => by simp only [LsU] at h; subst h; simp only [List.nil_append, LsU]; exact ⟨q, [], rfl, hx, rfl⟩
  | y :: l, r, h => by
    simp only [LsU] at h
    obtain ⟨q', r', rfl, h1, h2⟩ := h
    simp only [List.cons_append, LsU]
    exact ⟨q', _, rfl, h1, LsU.snoc hx h2⟩
theorem gat_sameU {S F : Nat → Prop} {w w' : World} {p : Option Addr} {rows : List (List Value)} {n : Nat} (hr : rows.length = n) (h : GAt 7 w p rows) (hF : 0 < n → ∃ a, p = some a ∧ F a.block) (hg : Fr2 S w w') (hS : ∀ k, F k → ¬ S k) : GAt 7 w' p rows :=
  h.keptS hg (fun h0 a ha => by
    obtain ⟨b, hb, h1⟩ := hF (by have := List.length_pos_iff.2 h0; omega)
    rw [ha] at hb; injection hb with hb; subst hb; exact hS _ h1)
mutual
theorem RSt.same {F S : Nat → Prop} {w w' : World} (hg : Fr2 S w w') (hS : ∀ k, F k → ¬ S k) : ∀ {x : Sx} {q : List Value}, RSt F w x q → RSt F w' x q
  | .mk op nm md nu ys ks ps, q, h => by
    simp only [RSt] at h ⊢
    obtain ⟨pk, ck, rows, h1, h3, h4, h5⟩ := h
    exact ⟨pk, ck, rows, h1, gat_sameU h4.len h3 (fun h0 => h5 (List.length_pos_iff.1 h0)) hg hS, LsU.same hg hS h4, h5⟩
theorem LsU.same {F S : Nat → Prop} {w w' : World} (hg : Fr2 S w w') (hS : ∀ k, F k → ¬ S k) : ∀ {l : List Sx} {r : List (List Value)}, LsU F w l r → LsU F w' l r
  | [], r, h => by simp only [LsU] at h ⊢; exact h
  | x :: l, r, h => by
    simp only [LsU] at h ⊢
    obtain ⟨q, r', h1, h2, h3⟩ := h
    exact ⟨q, r', h1, RSt.same hg hS h2, LsU.same hg hS h3⟩
end
mutual
theorem RSt.mono {F F' : Nat → Prop} {w : World} (hF : ∀ k, F k → F' k) : ∀ {x : Sx} {q : List Value}, RSt F w x q → RSt F' w x q
  | .mk op nm md nu ys ks ps, q, h => by
    simp only [RSt] at h ⊢
    obtain ⟨pk, ck, rows, h1, h3, h4, h5⟩ := h
    exact ⟨pk, ck, rows, h1, h3, LsU.mono hF h4, fun h0 => by obtain ⟨a, ha, h6⟩ := h5 h0; exact ⟨a, ha, hF _ h6⟩⟩
theorem LsU.mono {F F' : Nat → Prop} {w : World} (hF : ∀ k, F k → F' k) : ∀ {l : List Sx} {r : List (List Value)}, LsU F w l r → LsU F' w l r
  | [], r, h => by simp only [LsU] at h ⊢; exact h
  | x :: l, r, h => by
    simp only [LsU] at h ⊢
    obtain ⟨q, r', h1, h2, h3⟩ := h
    exact ⟨q, r', h1, RSt.mono hF h2, LsU.mono hF h3⟩
end
theorem LsU.kept {F : Nat → Prop} {w w' : World} {l : List Sx} {r : List (List Value)} (h : LsU F w l r) (hg : w.grownBy w' none) : LsU F w' l r := LsU.same (S := fun _ => False) (Fr2.none hg) (fun _ _ h => h) h

def withK : Ex → List Ex → Ex
  | .mk op nm md nu ys _ ps, ks => .mk op nm md nu ys ks ps
theorem nodeE_with (k : Nat) (o : Nat → Tok) (ks : List Ex) : nodeE k o ks = withK (nodeE k o []) ks := by
  unfold nodeE
  repeat' (split)
  all_goals (first | rfl | (split <;> rfl))
theorem nodeE_kids (k : Nat) (o : Nat → Tok) : ∃ op nm md nu ys ps, nodeE k o [] = .mk op nm md nu ys [] ps := by
  cases h : nodeE k o [] with
  | mk op nm md nu ys ks ps =>
    have h1 := nodeE_with k o []
    rw [h] at h1
    simp only [withK, Ex.mk.injEq, true_and, and_true] at h1
    exact ⟨op, nm, md, nu, ys, ps, by rw [h1]⟩

theorem int_low {F : Nat → Prop} {w : World} {s : Bool} {p : Option Addr} {n c : Nat} {Z : Int} (hi : Zd.IsInt w (.agg #[.bool s, .slice p n c]) Z) (h : 0 < n → ∃ a, p = some a ∧ F a.block) (h0 : 0 < n) : ∃ a, p = some a ∧ F a.block ∧ a.block < w.heap.size := by
  obtain ⟨a, ha, hF⟩ := h h0
  refine ⟨a, ha, hF, ?_⟩
  obtain ⟨s', v, M, he, ⟨p', n', c', f, rfl, h1, h2, h3, h4⟩, r⟩ := hi
  simp only [Value.agg.injEq, Array.mk.injEq, List.cons.injEq, Value.bool.injEq, Value.slice.injEq, and_true] at he
  obtain ⟨rfl, rfl, rfl, rfl⟩ := he
  obtain ⟨g, off, hp, hl, -⟩ := Or.resolve_left h3 (by omega)
  rw [ha] at hp; injection hp with hp; subst hp; exact hl
theorem NumAt.bound {F : Nat → Prop} {w : World} {op : Nat} {nu : List UInt8} {s : Bool} {p : Option Addr} {n c : Nat} (h : NumAt F w op nu s p n c) : NumAt (fun k => F k ∧ k < w.heap.size) w op nu s p n c := by
  unfold NumAt at h ⊢
  split
  · rename_i ho
    rw [if_pos ho] at h
    exact ⟨h.1, h.2.1, int_low h.1 h.2.2⟩
  · rename_i ho
    rw [if_neg ho] at h
    exact ⟨h.1, int_low h.1 h.2⟩
mutual
theorem EAt.bound {F : Nat → Prop} {w : World} : ∀ {x : Ex} {q : List Value}, EAt F w x q → EAt (fun k => F k ∧ k < w.heap.size) w x q
  | .mk op nm md nu ys ks ps, q, h => by
    simp only [EAt] at h ⊢
    obtain ⟨s, pw, nw, cw, pk, ck, rows, h1, h2, h3, h4, h5⟩ := h
    refine ⟨s, pw, nw, cw, pk, ck, rows, h1, h2.bound, h3, LsE.bound h4, fun h0 => ?_⟩
    obtain ⟨a, ha, h6, h7⟩ := h5 h0
    have hr := Ls_len h4
    refine ⟨a, ha, ⟨h6, ?_⟩, h7⟩
    exact (GAt.blk h3 (fun e => by rw [e] at hr; exact h0 (List.eq_nil_of_length_eq_zero hr.symm)) a ha)
theorem LsE.bound {F : Nat → Prop} {w : World} : ∀ {l : List Ex} {r : List (List Value)}, LsE F w l r → LsE (fun k => F k ∧ k < w.heap.size) w l r
  | [], r, h => by simp only [LsE] at h ⊢; exact h
  | x :: l, r, h => by
    simp only [LsE] at h ⊢
    obtain ⟨q, r', h1, h2, h3⟩ := h
    exact ⟨q, r', h1, EAt.bound h2, LsE.bound h3⟩
end
theorem EAt.parts {F : Nat → Prop} {w : World} {op ps : Nat} {nm md nu : List UInt8} {ys : Bool} {q : List Value} (h : EAt F w (.mk op nm md nu ys [] ps) q) (h0 : q[6]? = some (.slice none 0 0)) : ∃ s pw nw cw, q = [.int .i64 (op : Int), .string ⟨nm.toArray⟩, .string ⟨md.toArray⟩, .bool s, .slice pw nw cw, .bool ys, .slice none 0 0, .int .i64 (ps : Int)] ∧ NumAt F w op nu s pw nw cw := by
  simp only [EAt] at h
  obtain ⟨s, pw, nw, cw, pk, ck, rows, rfl, h2, -⟩ := h
  simp at h0
  obtain ⟨rfl, rfl⟩ := h0
  exact ⟨s, pw, nw, cw, rfl, h2⟩
theorem EAt.one {F : Nat → Prop} {w : World} {x : Ex} {q : List Value} (h : EAt F w x q) : q.length = 8 ∧ ∀ u ∈ q, u.oneCell' = true := by
  cases x with
  | mk op nm md nu ys ks ps =>
    simp only [EAt] at h
    obtain ⟨s, pw, nw, cw, pk, ck, rows, rfl, -⟩ := h
    exact ⟨rfl, fun u hu => by simp at hu; rcases hu with rfl | rfl | rfl | rfl | rfl | rfl | rfl | rfl <;> rfl⟩

theorem axTs_append (T : List Tok) : ∀ a b : List Tr, axTs T (a ++ b) = axTs T a ++ axTs T b
  | [], b => by simp [axTs]
  | t :: a, b => by
    simp only [List.cons_append, axTs, axTs_append T a b]
    split <;> simp
theorem axTs_nd (T : List Tok) {l : List Tr} {j : Nat} {t : Tr} (h : l[j]? = some t) (ht : isN t = true) : axTs T (l.take (j + 1)) = axTs T (l.take j) ++ [axT T t] := by
  rw [take_snoc h, axTs_append]; simp [axTs, ht]
theorem axTs_lf (T : List Tok) {l : List Tr} {j i : Nat} (h : l[j]? = some (.lf i)) : axTs T (l.take (j + 1)) = axTs T (l.take j) := by
  rw [take_snoc h, axTs_append]; simp [axTs, isN]
theorem axTs_len (T : List Tok) : ∀ l : List Tr, (axTs T l).length ≤ l.length
  | [] => by simp [axTs]
  | t :: l => by
    have := axTs_len T l
    simp only [axTs, List.length_cons]
    split
    · simp only [List.length_cons]; omega
    · omega
theorem WEs_get {T : List Tok} : ∀ {l : List Tr} {j : Nat} {t : Tr}, WEs T l → l[j]? = some t → WE T t
  | [], j, t, _, h => by simp at h
  | u :: l, j, t, hk, h => by
    simp only [WEs] at hk
    match j, h with
    | 0, h => simp at h; subst h; exact hk.1
    | j + 1, h => exact WEs_get hk.2 (by simpa using h)
theorem lvTs_get : ∀ {l : List Tr} {j : Nat} {t : Tr}, l[j]? = some t → ∀ i ∈ lvT t, i ∈ lvTs l
  | [], j, t, h => by simp at h
  | u :: l, j, t, h => fun i hi => by
    simp only [lvTs, List.mem_append]
    match j, h with
    | 0, h => simp at h; subst h; exact .inl hi
    | j + 1, h => exact .inr (lvTs_get (l := l) (j := j) (by simpa using h) i hi)
theorem szRs_get : ∀ {l : List Tr} {j : Nat} {t : Tr}, l[j]? = some t → szR t ≤ szRs l
  | [], j, t, h => by simp at h
  | u :: l, j, t, h => by
    simp only [szRs]
    match j, h with
    | 0, h => simp at h; subst h; omega
    | j + 1, h => have := szRs_get (l := l) (j := j) (t := t) (by simpa using h); omega
theorem len_szRs : ∀ l : List Tr, l.length ≤ szRs l
  | [] => Nat.zero_le _
  | u :: l => by have := len_szRs l; have := szR_pos u; simp only [szRs, List.length_cons]; omega

/-- withoutKids at whatever kind the form allows. -/
theorem with_all {T : List Tok} {k : Nat} {l : List Tr} (hs : ShE T k l) (hk : k ≠ 12) (p : Option Addr) (c : Nat) (w : World) (hl : l.length ≤ 150000) (ht : TAt w p ((ownL l).map (tkT T))) (hla : LaidS w) :
    Calls Tryz.prog 49 #[.int .i64 (k : Int), .slice p (ownL l).length c] w (ExPost0 (nodeE k (fun j => tkT T ((ownL l).getD j T.length)) []) w) := by
  have ho : (fun j => tkT T ((ownL l).getD j T.length)) = tkT ((ownL l).map (tkT T)) := by
    funext j
    unfold tkT
    rw [List.getElem?_map, List.getD_eq_getElem?_getD]
    cases h : (ownL l)[j]? with
    | none => simp
    | some i => rfl
  have hlen : ((ownL l).map (tkT T)).length = (ownL l).length := List.length_map _
  have hlim : ((ownL l).map (tkT T)).length ≤ 150000 := by have := ownL_len l; omega
  rw [ho, ← hlen]
  cases hs with
  | let_ i j k' m t u h1 h2 =>
    cases t with
    | lf _ => simp [isN] at h1
    | nd _ _ => cases u with
      | lf _ => simp [isN] at h2
      | nd _ _ => exact with7 _ p c w hlim (by simp [ownL]) (by simp [ownL]) ht
  | if_ i j k' t u v h1 h2 h3 => exact with8 _ p c w hlim (by simp [ownL]) ht
  | assert_ i j t u h1 h2 => exact with9 _ p c w hlim (by simp [ownL]) ht
  | bin i t u h1 h2 h3 =>
    cases t with
    | lf _ => simp [isN] at h1
    | nd _ _ => exact with10 _ p c w hlim (by simp [ownL]) hla ht
  | una i t h1 h2 => exact with11 _ p c w hlim (by simp [ownL]) ht
  | grp i j t h1 => exact absurd rfl hk
  | call i j l' h1 => exact with13 _ p c w hlim (by simp [ownL]) (by simp [ownL]) (fun e => absurd (by simpa [ownL, tkT] using e) h1) ht
  | callm i j m l' h1 => exact with13 _ p c w hlim (by simp [ownL]) (by simp [ownL]) (fun _ => by simp [ownL]) ht
  | nam i => exact with14 _ p c w hlim (by simp [ownL]) ht
  | num i h1 => exact with15 _ p c w hlim (by simp [ownL]) (by simpa [ownL, tkT] using h1) ht
  | tru i => exact with16 _ p c w hlim (by simp [ownL]) ht
  | res i => exact with17 _ p c w hlim (by simp [ownL]) ht

theorem EAt.fill {F : Nat → Prop} {w : World} {op ps : Nat} {nm md nu : List UInt8} {ys s : Bool} {pw pk : Option Addr} {nw cw ck : Nat} {ks : List Ex} {rows : List (List Value)} (h : NumAt F w op nu s pw nw cw) (hr : GAt 8 w pk rows) (hl : LsE F w ks rows) (hf : ks ≠ [] → ∃ a, pk = some a ∧ F a.block ∧ FlatB w a.block) : EAt F w (.mk op nm md nu ys ks ps) [.int .i64 (op : Int), .string ⟨nm.toArray⟩, .string ⟨md.toArray⟩, .bool s, .slice pw nw cw, .bool ys, .slice pk ks.length ck, .int .i64 (ps : Int)] := by
  simp only [EAt]
  exact ⟨s, pw, nw, cw, pk, ck, rows, rfl, h, hr, hl, hf⟩
theorem infoEx : (Tryz.prog.info? 30).map (fun i => (i.zero, i.size, i.bytes)) = some (some (.agg #[.int .i64 0, .string ⟨#[]⟩, .string ⟨#[]⟩, .bool false, .slice none 0 0, .bool false, .slice none 0 0, .int .i64 0]), 8, 112) := by kernel_rfl
theorem two (w : World) (A B : Obj) : ∃ (W : World) (b0 b1 : Nat), W = (w.alloc A).alloc B ∧ w.heap.size = b0 ∧ w.heap.size + 1 = b1 ∧ W.heap[b0]? = some A ∧ W.heap[b1]? = some B ∧ w.grownBy W none ∧ b0 < b1 := by
  have h1 := heap_alloc_new w A
  have h2 := heap_alloc_new (w.alloc A) B
  have s1 : (w.alloc A).heap.size = w.heap.size + 1 := by simp
  rw [s1] at h2
  exact ⟨_, _, _, rfl, rfl, rfl, bx (World.grownBy_alloc _ _ none) h1, h2, gb_alloc (gb_alloc (gb_refl _ _) _) _, by omega⟩

/-- Where an expression without its kids lies in a box of its own. -/
def AfterE (w : World) (b1 op ps : Nat) (nm md nu : List UInt8) (ys : Bool) (t5 : Value) (wx : World) : Prop :=
  ∃ (b2 : Nat) (s : Bool) (pw : Option Addr) (nw cw : Nat), t5 = .pointer (some ⟨b2, 0, none⟩) ∧ wx.heap[b2]? = some (.cells #[.int .i64 (op : Int), .string ⟨nm.toArray⟩, .string ⟨md.toArray⟩, .bool s, .slice pw nw cw, .bool ys, .slice none 0 0, .int .i64 (ps : Int)] 30 (0, 0)) ∧ NumAt (fun k => b1 + 1 ≤ k ∧ k < wx.heap.size ∧ k ≠ b2) wx op nu s pw nw cw ∧ b1 < b2 ∧ w.grownBy wx none
theorem after_new {w w3 w4 : World} {b1 op ps : Nat} {nm md nu : List UInt8} {ys s : Bool} {pw : Option Addr} {nw cw : Nat} (hg : w.grownBy w4 none) (h3 : w.heap.size ≤ w3.heap.size) (hb : b1 < w4.heap.size) (hb3 : b1 < w3.heap.size) (hn : NumAt (fun k => w3.heap.size ≤ k) w4 op nu s pw nw cw) :
    AfterE w b1 op ps nm md nu ys (.pointer (some ⟨w4.heap.size, 0, none⟩)) (w4.alloc (.cells #[.int .i64 (op : Int), .string ⟨nm.toArray⟩, .string ⟨md.toArray⟩, .bool s, .slice pw nw cw, .bool ys, .slice none 0 0, .int .i64 (ps : Int)] 30)) := by
  refine ⟨w4.heap.size, s, pw, nw, cw, rfl, heap_alloc_new w4 _, ?_, hb, gb_alloc hg _⟩
  exact ((hn.bound).same (S := fun _ => False) (Fr2.none (World.grownBy_alloc w4 _ none)) (fun _ _ h => h)).mono (fun k hk => ⟨by omega, by simp; omega, by omega⟩)
theorem after_old {w w3 w4 : World} {b b1 op ps : Nat} {nm md nu : List UInt8} {ys s : Bool} {pw : Option Addr} {nw cw : Nat} {x0 x1 x2 x3 x4 x5 x6 x7 : Value} (hg : w.grownBy w4 none) (h3 : w.heap.size ≤ w3.heap.size) (hb : b1 < b) (hwb : w.heap.size ≤ b) (hb3 : b < w3.heap.size) (h0 : w4.heap[b]? = some (.cells #[x0, x1, x2, x3, x4, x5, x6, x7] 30 (0, 0))) (hn : NumAt (fun k => w3.heap.size ≤ k) w4 op nu s pw nw cw) :
    AfterE w b1 op ps nm md nu ys (.pointer (some ⟨b, 0, none⟩)) ((((((((w4.setCell ⟨b, 0, none⟩ (.int .i64 (op : Int))).setCell ⟨b, 1, none⟩ (.string ⟨nm.toArray⟩)).setCell ⟨b, 2, none⟩ (.string ⟨md.toArray⟩)).setCell ⟨b, 3, none⟩ (.bool s)).setCell ⟨b, 4, none⟩ (.slice pw nw cw)).setCell ⟨b, 5, none⟩ (.bool ys)).setCell ⟨b, 6, none⟩ (.slice none 0 0)).setCell ⟨b, 7, none⟩ (.int .i64 (ps : Int))) := by
  obtain ⟨hp, hf⟩ := put8c h0 (.int .i64 (op : Int)) (.string ⟨nm.toArray⟩) (.string ⟨md.toArray⟩) (.bool s) (.slice pw nw cw) (.bool ys) (.slice none 0 0) (.int .i64 (ps : Int))
  refine ⟨b, s, pw, nw, cw, rfl, hp, ?_, hb, Fr2.after hg hf (fun j hj => by have e : j = b := hj; omega)⟩
  exact ((hn.bound).same hf (fun k hk e => by have e : k = b := e; omega)).mono (fun k hk => ⟨by omega, Nat.lt_of_lt_of_le hk.2 hf.size, by omega⟩)
theorem old_gb {w1 w4 : World} {b : Nat} {x0 x1 x2 x3 x4 x5 x6 x7 : Value} {a0 a1 a2 a3 a4 a5 a6 a7 : Value} (hg : w1.grownBy w4 none) (hb : w1.heap.size ≤ b) (h0 : w4.heap[b]? = some (.cells #[x0, x1, x2, x3, x4, x5, x6, x7] 30 (0, 0))) :
    w1.grownBy ((((((((w4.setCell ⟨b, 0, none⟩ a0).setCell ⟨b, 1, none⟩ a1).setCell ⟨b, 2, none⟩ a2).setCell ⟨b, 3, none⟩ a3).setCell ⟨b, 4, none⟩ a4).setCell ⟨b, 5, none⟩ a5).setCell ⟨b, 6, none⟩ a6).setCell ⟨b, 7, none⟩ a7) none :=
  Fr2.after hg (put8c h0 a0 a1 a2 a3 a4 a5 a6 a7).2 (fun j hj => by have e : j = b := hj; omega)
theorem grp_ax (T : List Tok) (i j : Nat) {u : Tr} (hu : isN u = true) : axT T (.nd 12 [.lf i, u, .lf j]) = axT T u := by
  have h : axTs T [.lf i, u, .lf j] = [axT T u] := by
    rw [axTs, axTs, axTs, axTs, if_neg (by simp [isN]), if_pos hu, if_neg (by simp [isN])]
  rw [axT, if_pos rfl, h]; rfl

theorem EAt.eight {F : Nat → Prop} {w : World} {x : Ex} {q : List Value} (h : EAt F w x q) : ∃ a0 a1 a2 a3 a4 a5 a6 a7, q = [a0, a1, a2, a3, a4, a5, a6, a7] := by
  cases x with
  | mk op nm md nu ys ks ps =>
    simp only [EAt] at h
    obtain ⟨s, pw, nw, cw, pk, ck, rows, rfl, -⟩ := h
    exact ⟨_, _, _, _, _, _, _, _, rfl⟩
/-- A kid is put behind the others: all of them still read as they did. -/
theorem push_kid {wr w7 wa w9 W9 : World} {B b2 base nv cv g9 n9 cap9 : Nat} {pv : Option Addr} {rows : List (List Value)} {q : List Value} {ks : List Ex} {x : Ex} {u : Value} (hw : B ≤ wr.heap.size) (hO : OwnG 8 30 wr base (.slice pv nv cv) rows) (hb2 : b2 < base) (hb2r : b2 < wr.heap.size)
    (hLS : LsE (fun k => B ≤ k ∧ k < wr.heap.size ∧ k ≠ b2 ∧ (Value.slice pv nv cv).ownBlock ≠ some k) wr ks rows) (hg7 : wr.grownBy w7 none) (hq : EAt (fun k => wr.heap.size ≤ k) w7 x q) (hga : w7.grownBy wa none) (hsa : wa.heap.size = w7.heap.size + 1)
    (hg9 : wa.grownBy w9 (Value.slice pv nv cv).ownBlock) (hl9 : (Value.slice pv nv cv).ownBlock = some g9 ∨ g9 = w7.heap.size + 1) (hf : (w9.setCell ⟨b2, 6, none⟩ u).grownBy W9 none) :
    LsE (fun k => B ≤ k ∧ k < W9.heap.size ∧ k ≠ b2 ∧ (Value.slice (some ⟨g9, 0, none⟩) n9 cap9).ownBlock ≠ some k) W9 (ks ++ [x]) (rows ++ [q]) := by
  have hat := OwnG.at hO
  have s7 := hg7.size
  have s9 := hg9.size
  have sf := hf.size
  have sc : (w9.setCell ⟨b2, 6, none⟩ u).heap.size = w9.heap.size := by simp [World.setCell]
  have fr : Fr2 (fun k => (Value.slice pv nv cv).ownBlock = some k ∨ k = b2) w7 W9 :=
    ((Fr2.none hga).trans ((Fr2.of hg9 (fun k e => .inl e)).trans ((Fr2.setCell (Fr2.refl _ _) (.inr rfl) u).trans (Fr2.none hf))))
  have hne : ∀ k, k < w7.heap.size → (Value.slice pv nv cv).ownBlock ≠ some k → (Value.slice (some ⟨g9, 0, none⟩) n9 cap9).ownBlock ≠ some k := fun k hk h1 e => by
    have e : g9 = k := Option.some.inj (show some g9 = some k from e)
    rcases hl9 with h | h
    · exact h1 (by rw [h, e])
    · omega
  have hno : ∀ k, wr.heap.size ≤ k → (Value.slice pv nv cv).ownBlock ≠ some k := fun k hk e => by have := hat _ e; omega
  refine Ls_snoc ?_ ?_
  · have h1 := EAt.same fr (fun k (hk : wr.heap.size ≤ k ∧ k < w7.heap.size) => fun e => by
      rcases e with e | e
      · exact hno k hk.1 e
      · omega) hq.bound
    exact EAt.mono (fun k hk => ⟨by omega, by omega, by omega, hne k hk.2 (hno k hk.1)⟩) h1
  · have h1 := LsE.same fr (fun k (hk : B ≤ k ∧ k < wr.heap.size ∧ k ≠ b2 ∧ (Value.slice pv nv cv).ownBlock ≠ some k) => fun e => by
      rcases e with e | e
      · exact hk.2.2.2 e
      · exact hk.2.2.1 e) (hLS.kept hg7)
    exact LsE.mono (fun k hk => ⟨hk.1, by omega, hk.2.2.1, hne k (by omega) hk.2.2.2⟩) h1

theorem ax_nd (T : List Tok) {k : Nat} {l : List Tr} (hk : k ≠ 12) : axT T (.nd k l) = withK (nodeE k (fun j => tkT T ((ownL l).getD j T.length)) []) (axTs T l) := by
  rw [axT, if_neg hk, nodeE_with]
theorem OwnG.flat {s n c : Nat} {T : TypeId} {w : World} {base : Nat} {a : Addr} {l : List (List Value)} (h : OwnG s T w base (.slice (some a) n c) l) : FlatB w a.block := by
  rcases h.1.2 with ⟨e, -⟩ | ⟨g, cap, cur, e, hb, hg, -⟩
  · cases e
  · injection e with e1
    injection e1 with e1
    subst e1
    exact ⟨_, _, hg⟩
theorem OwnG.rows {s n c : Nat} {T : TypeId} {w : World} {base : Nat} {p : Option Addr} {l : List (List Value)} (h : OwnG s T w base (.slice p n c) l) : n = l.length ∧ GAt s w p l ∧ (l ≠ [] → ∃ a, p = some a ∧ base ≤ a.block ∧ a.block < w.heap.size) := by
  obtain ⟨p', c', e, h1, h2, h3, h4⟩ := h.is
  injection e with e1 e2 e3
  subst e1
  refine ⟨e2, h1, fun h0 => ?_⟩
  have hl := List.length_pos_iff.2 h0
  obtain ⟨a, ha, hb, hc⟩ := OwnG.lt h rfl (by omega)
  exact ⟨a, ha, hb, hc⟩

/-- A tree that an expression is read of. -/
structure GoodE (T : List Tok) (N : List Nd) (k : Int) (t : Tr) : Prop where
  nd : isN t = true
  we : WE T t
  ko : kOk t
  lv : ∀ i ∈ lvT t, i < T.length
  pl : TrAt N k t


/-- A cell: its Op, the kids a call takes, its name, module, number's text, truth. -/
structure Cl where
  op : Int
  kids : Int
  nm : List UInt8
  md : List UInt8
  nu : List UInt8
  ys : Bool
def takesC (c : Cl) : Nat := if c.op ≤ 4 ∨ 24 < c.op then 0 else if c.op ≤ 6 then 1 else if c.op = 21 then 3 else if c.op = 24 then (min (max c.kids 0) 9).toNat else 2
def fitsC (c : Cl) : Bool := decide (c.nm.length ≤ 60) && decide (c.md.length ≤ 60) && decide (c.nu.length ≤ 80)
def numC (c : Cl) : Int := if c.op = 1 then Zd.parseV c.nu else 0
/-- What stands open behind a cell. -/
def stepC (o : List Sx) (c : Cl) : List Sx := o.take (o.length - takesC c) ++ [.mk c.op c.nm c.md (numC c) c.ys (o.drop (o.length - takesC c)) 0]
def stackC (l : List Cl) : List Sx := l.foldl stepC []
/-- The expression that a row tells; none, if it is too long, empty, or a cell doesn't fit. -/
def bothC (l : List Cl) : Option Sx := if 30 < l.length then none else if l.all fitsC then (stackC l).getLast? else none
theorem takesC_le (c : Cl) : takesC c ≤ 9 := by
  unfold takesC
  split
  · omega
  split
  · omega
  split
  · omega
  split
  · omega
  · omega
theorem sizSs_append (a b : List Sx) : sizSs (a ++ b) = sizSs a + sizSs b := by
  induction a with
  | nil => simp [sizSs]
  | cons x l ih => simp only [List.cons_append, sizSs, ih]; omega
theorem stepC_siz (o : List Sx) (c : Cl) : sizSs (stepC o c) = sizSs o + 1 := by
  unfold stepC
  have h := sizSs_append (o.take (o.length - takesC c)) (o.drop (o.length - takesC c))
  rw [List.take_append_drop] at h
  rw [sizSs_append, h]
  simp only [sizSs, sizS]; omega
theorem stackC_snoc (l : List Cl) (c : Cl) : stackC (l ++ [c]) = stepC (stackC l) c := by simp [stackC, List.foldl_append]
theorem foldC_siz : ∀ (l : List Cl) (o : List Sx), sizSs (l.foldl stepC o) = sizSs o + l.length
  | [], o => by simp
  | c :: l, o => by rw [List.foldl_cons, foldC_siz l, stepC_siz, List.length_cons]; omega
theorem stackC_siz (l : List Cl) : sizSs (stackC l) = l.length := by
  have := foldC_siz l []
  simp only [sizSs] at this
  unfold stackC; omega
theorem sizSs_len : ∀ l : List Sx, l.length ≤ sizSs l
  | [] => Nat.le_refl _
  | x :: l => by have := sizSs_len l; have := sizS_pos x; simp only [List.length_cons, sizSs]; omega
theorem stackC_len (l : List Cl) : (stackC l).length ≤ l.length := by have := sizSs_len (stackC l); rw [stackC_siz] at this; exact this
theorem bothC_siz {l : List Cl} {x : Sx} (h : bothC l = some x) : sizS x ≤ 30 := by
  unfold bothC at h
  split at h
  · simp at h
  · rename_i h30
    split at h
    · have h1 : x ∈ stackC l := List.mem_of_getLast? h
      obtain ⟨j, hj, rfl⟩ := List.getElem_of_mem h1
      have := sizSs_mem (List.getElem?_eq_getElem hj)
      rw [stackC_siz] at this; omega
    · simp at h

theorem nd_pos {N : Nat} (h : N ≠ 0) : 0 < Zd.nd N := by unfold Zd.nd; rw [dif_neg h]; omega
theorem dig_lt (N j : Nat) : Zd.dig N j < 10 := Nat.mod_lt _ (by omega)
theorem dec_head {N : Nat} (h : N ≠ 0) : ∃ b r, Zd.decL N = b :: r ∧ 48 ≤ b.toNat ∧ b.toNat ≤ 57 := by
  have hp := nd_pos h
  have hl : (Zd.decL N).length = Zd.nd N := decL_len N
  match hD : Zd.decL N with
  | [] => rw [hD] at hl; simp at hl; omega
  | b :: r =>
    refine ⟨b, r, rfl, ?_⟩
    have hm : b ∈ Zd.decL N := by rw [hD]; simp
    unfold Zd.decL at hm
    obtain ⟨j, -, rfl⟩ := List.mem_map.1 hm
    have := dig_lt N (Zd.nd N - 1 - j)
    rw [UInt8.toNat_ofNat']
    omega
theorem txt_head (Z : Int) : ∃ b r, Zd.txtL Z = b :: r ∧ (b = 45 ↔ Z < 0) := by
  unfold Zd.txtL
  by_cases h0 : Z = 0
  · subst h0; exact ⟨48, [], rfl, by decide⟩
  rw [if_neg h0]
  by_cases h1 : Z < 0
  · rw [if_pos h1]; exact ⟨45, _, rfl, by simp [h1]⟩
  · rw [if_neg h1]
    obtain ⟨b, r, h, h2, -⟩ := dec_head (N := Z.natAbs) (by omega)
    exact ⟨b, r, h, fun e => by (subst e; exact absurd h2 (by decide)), fun e => absurd e h1⟩
end Go.Proofs.YtddccnpohpaofaaGreatDoor
