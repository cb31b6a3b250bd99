/- Lemmas. -/
import Derived.Test.YtddccnpohpaofaaGreatDoorP15
set_option linter.unusedVariables false
set_option linter.unusedSimpArgs false
namespace Go.Proofs.YtddccnpohpaofaaGreatDoor
open Go.RowKit

set_option maxRecDepth 100000 in
set_option maxHeartbeats 16000000 in
theorem bare_call (S : Nat → Prop) (B b : Nat) (rows : List (List Value)) (fg fo gk ok n ck : Nat) (pk : Option Addr) (nm md : List UInt8) (w : World) (h : WrAt S B b w rows) (hl : rows.length ≤ 700000) (hn : n ≤ 8) (hnl : nm.length ≤ 60000) (hml : md.length ≤ 60000) (hSf : S fg) (hpk : 0 < n → pk = some ⟨gk, ok, none⟩)
    (c0 : w.cell? ⟨fg, fo, none⟩ = some (.int .i64 24)) (c1 : w.cell? ⟨fg, fo + 1, none⟩ = some (.string ⟨nm.toArray⟩)) (c2 : w.cell? ⟨fg, fo + 2, none⟩ = some (.string ⟨md.toArray⟩)) (c6 : w.cell? ⟨fg, fo + 6, none⟩ = some (.slice pk n ck)) :
    Calls Tryz.prog 95 #[.pointer (some ⟨b, 0, none⟩), .pointer (some ⟨fg, fo, none⟩)] w (PcPost S B b (rows ++ callR nm md gk ok n) w) := by
  have HC := Lib.hid (call_c9 S B b rows fg fo gk ok n ck pk nm md w h (by omega) hn hnl hml hSf hpk c1 c2 c6)
  clear h hl hn hnl hml hSf hpk c1 c2 c6
  go_enter Tryz.func95, Tryz.ntmps95
  go_wp2_with fail
  refine HC.out.mono ?_
  rintro e w2 ⟨rfl, hw2, hf2⟩
  have HW2 := Lib.hid hw2; have HF2 := Lib.hid hf2
  clear hw2 hf2
  go_wp2_with fail
  go_end0
  exact ⟨rfl, HW2.out, HF2.out⟩
set_option maxRecDepth 100000 in
set_option maxHeartbeats 16000000 in
theorem bare_signed (S : Nat → Prop) (B b : Nat) (rows : List (List Value)) (fg fo gk ok ck j : Nat) (sg : List UInt8) (w : World) (h : WrAt S B b w rows) (hl : rows.length ≤ 700000) (hj : signs9[j]? = some sg) (hSf : S fg) (hSg : S 5) (hla : LaidW w)
    (c0 : w.cell? ⟨fg, fo, none⟩ = some (.int .i64 ((7 + j : Nat) : Int))) (c6 : w.cell? ⟨fg, fo + 6, none⟩ = some (.slice (some ⟨gk, ok, none⟩) 2 ck)) :
    Calls Tryz.prog 95 #[.pointer (some ⟨b, 0, none⟩), .pointer (some ⟨fg, fo, none⟩)] w (PcPost S B b (rows ++ [rowX gk ok (sideA (levS ((7 + j : Nat) : Int)) : Nat), rowB ([32] ++ sg ++ [32]), rowX gk (ok + 8) (sideB (levS ((7 + j : Nat) : Int)) : Nat)]) w) := by
  have hj14 : j < 14 := (List.getElem?_eq_some_iff.1 hj).1
  have HC := Lib.hid (signed_c9 S B b rows fg fo gk ok ck j sg w h (by omega) hj hSf hSg hla c0 c6)
  obtain ⟨op, hop⟩ : ∃ op : Int, ((7 + j : Nat) : Int) = op := ⟨_, rfl⟩
  rw [hop] at c0 HC ⊢
  have e1 : (op == 1) = false := beq_eq_false_iff_ne.2 (by omega)
  have e2 : (op == 2) = false := beq_eq_false_iff_ne.2 (by omega)
  have e3 : (op == 3) = false := beq_eq_false_iff_ne.2 (by omega)
  have e4 : (op == 4) = false := beq_eq_false_iff_ne.2 (by omega)
  have e5 : (op == 5) = false := beq_eq_false_iff_ne.2 (by omega)
  have e6 : (op == 6) = false := beq_eq_false_iff_ne.2 (by omega)
  have e7 : (op == 21) = false := beq_eq_false_iff_ne.2 (by omega)
  have e8 : (op == 22) = false := beq_eq_false_iff_ne.2 (by omega)
  have e9 : (op == 23) = false := beq_eq_false_iff_ne.2 (by omega)
  have e10 : (op == 24) = false := beq_eq_false_iff_ne.2 (by omega)
  clear h hl hj hSf hSg hla c6 hj14 hop
  go_enter Tryz.func95, Tryz.ntmps95
  go_wp2_with fail
  refine HC.out.mono ?_
  rintro e w2 ⟨rfl, hw2, hf2⟩
  have HW2 := Lib.hid hw2; have HF2 := Lib.hid hf2
  clear hw2 hf2
  go_wp2_with fail
  go_end0
  exact ⟨rfl, HW2.out, HF2.out⟩

/-- Parts whose row of pieces ahead is laid anew. -/
theorem parts_new (S : Nat → Prop) (B b : Nat) (rows : List (List Value)) (fg fo gk ok kn ck m cs : Nat) (A : List (List UInt8)) (vs : Array Value) (w : World) (h : WrAt S B b w rows) (hl : rows.length ≤ 700000) (hA : A.length = m) (hm : m ≤ kn) (hk : kn ≤ 1000000) (hm9 : m ≤ 9) (hvs : vs = (A.map strV).toArray)
    (c6 : w.cell? ⟨fg, fo + 6, none⟩ = some (.slice (some ⟨gk, ok, none⟩) kn ck)) (hSf : S fg) :
    Calls Tryz.prog 117 #[.pointer (some ⟨b, 0, none⟩), .pointer (some ⟨fg, fo, none⟩), .slice (some ⟨w.heap.size, 0, none⟩) m cs] (w.alloc (.cells vs 9)) (PcPost S B b (rows ++ partsR gk ok 0 A) w) := by
  have hHS : ∀ k, S k → k < w.heap.size := by obtain ⟨v, -, -, -, -, -, -, hh⟩ := h; exact hh
  have hg := World.grownBy_alloc w (.cells vs 9) none
  have hA0 := heap_alloc_new w (.cells vs 9)
  have hsz : (w.alloc (.cells vs 9)).heap.size = w.heap.size + 1 := by simp
  have hW := h.more hg (Nat.le_refl _) (by rw [hsz]; omega)
  have d6 := hg.cell c6 (by have := hHS _ hSf; simp)
  generalize (w.alloc (.cells vs 9)) = W at *
  refine (parts_c9 (fun k => S k ∨ k = w.heap.size) B b rows fg fo gk ok kn ck w.heap.size 0 m cs A W hW (by omega) hA hm hk hm9 d6 (.inl hSf) (.inr rfl) (fun i l hi => ?_)).mono ?_
  · rw [cell_of_row W w.heap.size (0 + i) _ _ (0, 0) hA0, hvs]
    simp [hi]
  · rintro e w2 ⟨rfl, hw2, hf2⟩
    exact ⟨rfl, hw2.less, (Fr2.none hg).trans (hf2.mono (fun k hk e => hk (.inl e)))⟩
set_option maxRecDepth 100000 in
set_option maxHeartbeats 16000000 in
theorem bare_if (S : Nat → Prop) (B b : Nat) (rows : List (List Value)) (fg fo gk ok ck : Nat) (w : World) (h : WrAt S B b w rows) (hl : rows.length ≤ 700000) (hSf : S fg)
    (c0 : w.cell? ⟨fg, fo, none⟩ = some (.int .i64 21)) (c6 : w.cell? ⟨fg, fo + 6, none⟩ = some (.slice (some ⟨gk, ok, none⟩) 3 ck)) :
    Calls Tryz.prog 95 #[.pointer (some ⟨b, 0, none⟩), .pointer (some ⟨fg, fo, none⟩)] w (PcPost S B b (rows ++ partsR gk ok 0 [[105, 102, 32], [32, 116, 104, 101, 110, 32], [32, 101, 108, 115, 101, 32]]) w) := by
  have HP := Lib.hid (parts_new S B b rows fg fo gk ok 3 ck 3 3 [[105, 102, 32], [32, 116, 104, 101, 110, 32], [32, 101, 108, 115, 101, 32]] _ w h hl rfl (by omega) (by omega) (by omega) rfl c6 hSf)
  clear h hl hSf c6
  go_enter Tryz.func95, Tryz.ntmps95
  go_wp2_with fail
  refine HP.out.mono ?_
  rintro e w2 ⟨rfl, hw2, hf2⟩
  have HW2 := Lib.hid hw2; have HF2 := Lib.hid hf2
  clear hw2 hf2
  go_wp2_with fail
  go_end0
  exact ⟨rfl, HW2.out, HF2.out⟩
set_option maxRecDepth 100000 in
set_option maxHeartbeats 16000000 in
theorem bare_assert (S : Nat → Prop) (B b : Nat) (rows : List (List Value)) (fg fo gk ok ck : Nat) (w : World) (h : WrAt S B b w rows) (hl : rows.length ≤ 700000) (hSf : S fg)
    (c0 : w.cell? ⟨fg, fo, none⟩ = some (.int .i64 23)) (c6 : w.cell? ⟨fg, fo + 6, none⟩ = some (.slice (some ⟨gk, ok, none⟩) 2 ck)) :
    Calls Tryz.prog 95 #[.pointer (some ⟨b, 0, none⟩), .pointer (some ⟨fg, fo, none⟩)] w (PcPost S B b (rows ++ partsR gk ok 0 [[97, 115, 115, 101, 114, 116, 32], [32, 105, 110, 32]]) w) := by
  have HP := Lib.hid (parts_new S B b rows fg fo gk ok 2 ck 2 2 [[97, 115, 115, 101, 114, 116, 32], [32, 105, 110, 32]] _ w h hl rfl (by omega) (by omega) (by omega) rfl c6 hSf)
  clear h hl hSf c6
  go_enter Tryz.func95, Tryz.ntmps95
  go_wp2_with fail
  refine HP.out.mono ?_
  rintro e w2 ⟨rfl, hw2, hf2⟩
  have HW2 := Lib.hid hw2; have HF2 := Lib.hid hf2
  clear hw2 hf2
  go_wp2_with fail
  go_end0
  exact ⟨rfl, HW2.out, HF2.out⟩
theorem cat_let (l : List UInt8) : ((⟨#[108, 101, 116, 32]⟩ : ByteArray) ++ (⟨l.toArray⟩ : ByteArray) ++ (⟨#[32, 61, 32]⟩ : ByteArray)) = ⟨([108, 101, 116, 32] ++ l ++ [32, 61, 32]).toArray⟩ := by
  apply ByteArray.ext
  rw [ByteArray.data_append, ByteArray.data_append]
  apply Array.toList_inj.1
  simp
set_option maxRecDepth 100000 in
set_option maxHeartbeats 16000000 in
theorem bare_let (S : Nat → Prop) (B b : Nat) (rows : List (List Value)) (fg fo gk ok ck : Nat) (nm : List UInt8) (w : World) (h : WrAt S B b w rows) (hl : rows.length ≤ 700000) (hnl : nm.length ≤ 60000) (hSf : S fg)
    (c0 : w.cell? ⟨fg, fo, none⟩ = some (.int .i64 22)) (c1 : w.cell? ⟨fg, fo + 1, none⟩ = some (.string ⟨nm.toArray⟩)) (c6 : w.cell? ⟨fg, fo + 6, none⟩ = some (.slice (some ⟨gk, ok, none⟩) 2 ck)) :
    Calls Tryz.prog 95 #[.pointer (some ⟨b, 0, none⟩), .pointer (some ⟨fg, fo, none⟩)] w (PcPost S B b (rows ++ partsR gk ok 0 [[108, 101, 116, 32] ++ nm ++ [32, 61, 32], [32, 105, 110, 32]]) w) := by
  have HP := Lib.hid (parts_new S B b rows fg fo gk ok 2 ck 2 2 [[108, 101, 116, 32] ++ nm ++ [32, 61, 32], [32, 105, 110, 32]] #[.string ((⟨#[108, 101, 116, 32]⟩ : ByteArray) ++ (⟨nm.toArray⟩ : ByteArray) ++ (⟨#[32, 61, 32]⟩ : ByteArray)), .string ⟨#[32, 105, 110, 32]⟩] w h hl rfl (by omega) (by omega) (by omega) (by rw [cat_let]; rfl) c6 hSf)
  have z4 : ¬ 9223372036854775807 < 4 + nm.length := by omega
  have z5 : ¬ 9223372036854775807 < 4 + nm.length + 3 := by omega
  have z6 : ¬ 9223372036854775807 < nm.length + 4 := by omega
  have z7 : ¬ 9223372036854775807 < nm.length + 4 + 3 := by omega
  have z8 : ¬ 9223372036854775807 < nm.length + 7 := by omega
  clear h hl hSf c6 hnl
  go_enter Tryz.func95, Tryz.ntmps95
  go_wp2_with fail
  refine HP.out.mono ?_
  rintro e w2 ⟨rfl, hw2, hf2⟩
  have HW2 := Lib.hid hw2; have HF2 := Lib.hid hf2
  clear hw2 hf2
  go_wp2_with fail
  go_end0
  exact ⟨rfl, HW2.out, HF2.out⟩

def PcAt (F : Nat → Prop) (w : World) : Pc → List Value → Prop
  | .bs l, r => r = rowB l
  | .ex x least, r => ∃ g o q, r = rowX g o ((least : Nat) : Int) ∧ F g ∧ g < w.heap.size ∧ SAt F w x q ∧ ∀ i v, q[i]? = some v → w.cell? ⟨g, o + i, none⟩ = some v
def PcsAt (F : Nat → Prop) (w : World) : List Pc → List (List Value) → Prop
  | [], r => r = []
  | p :: l, r => ∃ q r', r = q :: r' ∧ PcAt F w p q ∧ PcsAt F w l r'
theorem PcAt.same {F S : Nat → Prop} {w w' : World} (hg : Fr2 S w w') (hS : ∀ k, F k → ¬ S k) {p : Pc} {r : List Value} (h : PcAt F w p r) : PcAt F w' p r := by
  cases p with
  | bs l => exact h
  | ex x least =>
    obtain ⟨g, o, q, h1, h2, h3, h4, h5⟩ := h
    exact ⟨g, o, q, h1, h2, Nat.lt_of_lt_of_le h3 hg.size, h4.same hg hS, fun i v hi => by rw [World.cell?_of_block (w := w) (hg.block g h3 (hS _ h2))]; exact h5 i v hi⟩
theorem PcsAt.same {F S : Nat → Prop} {w w' : World} (hg : Fr2 S w w') (hS : ∀ k, F k → ¬ S k) : ∀ {l : List Pc} {r : List (List Value)}, PcsAt F w l r → PcsAt F w' l r
  | [], r, h => h
  | p :: l, r, h => by
    obtain ⟨q, r', h1, h2, h3⟩ := h
    exact ⟨q, r', h1, h2.same hg hS, PcsAt.same hg hS h3⟩
theorem PcsAt.app {F : Nat → Prop} {w : World} : ∀ {l l2 : List Pc} {r r2 : List (List Value)}, PcsAt F w l r → PcsAt F w l2 r2 → PcsAt F w (l ++ l2) (r ++ r2)
  | [], l2, r, r2, h, h2 => by have h : r = [] := h; subst h; exact h2
  | p :: l, l2, r, r2, h, h2 => by
    obtain ⟨q, r', rfl, h3, h4⟩ := h
    exact ⟨q, r' ++ r2, rfl, h3, PcsAt.app h4 h2⟩
theorem PcsAt.len {F : Nat → Prop} {w : World} : ∀ {l : List Pc} {r : List (List Value)}, PcsAt F w l r → r.length = l.length
  | [], r, h => by have h : r = [] := h; subst h; rfl
  | p :: l, r, h => by
    obtain ⟨q, r', rfl, h3, h4⟩ := h
    simp [PcsAt.len h4]
def BarePost (S F : Nat → Prop) (B b : Nat) (rows : List (List Value)) (ps : List Pc) (w : World) (e : Ending) (w' : World) : Prop := e = .returned (.tuple #[]) ∧ ∃ R, WrAt S B b w' (rows ++ R) ∧ PcsAt F w' ps R ∧ Fr2 (fun k => ¬ S k) w w'
theorem of_pc {S F : Nat → Prop} {B b : Nat} {rows R : List (List Value)} {ps : List Pc} {w w' : World} {e : Ending} (h : PcPost S B b (rows ++ R) w e w') (hp : PcsAt F w ps R) (hF : ∀ k, F k → S k) : BarePost S F B b rows ps w e w' := by
  obtain ⟨h1, h2, h3⟩ := h
  exact ⟨h1, R, h2, hp.same h3 (fun k hk e => e (hF k hk)), h3⟩
theorem kid_pc {F : Nat → Prop} {w : World} {gk ok : Nat} {ks : List Sx} {rows : List (List Value)} (hG : GAt 8 w (some ⟨gk, ok, none⟩) rows) (hl : LsS F w ks rows) (hF : F gk) (hfl : Flat w gk) {j : Nat} {x : Sx} (hx : ks[j]? = some x) (least : Nat) : PcAt F w (.ex x least) (rowX gk (ok + j * 8) ((least : Nat) : Int)) := by
  obtain ⟨q, hq, hx2⟩ := hl.get hx
  have hgw : gk < w.heap.size := by obtain ⟨cs, T, h⟩ := hfl; exact hlt h
  rcases hG with h | ⟨g, off, he, -, hc⟩
  · subst h; simp at hq
  · simp only [Option.some.injEq, Addr.mk.injEq, and_true] at he
    obtain ⟨rfl, rfl⟩ := he
    exact ⟨gk, ok + j * 8, q, rfl, hF, hgw, hx2, fun i v hi => hc j q hq i v hi⟩
theorem getD_some {ks : List Sx} {j : Nat} (h : j < ks.length) : ks[j]? = some (ks.getD j nilS) := by
  rw [List.getD_eq_getElem?_getD, List.getElem?_eq_getElem h]; rfl
theorem argsP_snoc (x : Sx) : ∀ l : List Sx, argsP (l ++ [x]) = argsP l ++ (if l.length = 0 then [] else [.bs [44, 32]]) ++ [.ex x 0]
  | [] => by simp [argsP]
  | [y] => by simp [argsP]
  | y :: z :: l => by
    have h := argsP_snoc x (z :: l)
    simp only [List.cons_append] at h ⊢
    simp only [argsP, h]
    simp
theorem args_pc {F : Nat → Prop} {w : World} {gk ok : Nat} {ks : List Sx} (hk : ∀ (j : Nat) (x : Sx), ks[j]? = some x → PcAt F w (.ex x 0) (rowX gk (ok + j * 8) 0)) : ∀ n, n ≤ ks.length → PcsAt F w (argsP (ks.take n)) (argsR [44, 32] gk ok n)
  | 0, _ => by simp [argsP, argsR, PcsAt]
  | n + 1, h => by
    have hx := getD_some (ks := ks) (j := n) (by omega)
    rw [List.take_add_one, hx]
    show PcsAt F w (argsP (ks.take n ++ [ks.getD n nilS])) _
    rw [argsP_snoc, List.length_take, Nat.min_eq_left (by omega)]
    refine PcsAt.app (PcsAt.app (args_pc hk n (by omega)) ?_) ⟨_, [], rfl, hk _ _ hx, rfl⟩
    by_cases h0 : n = 0
    · rw [if_pos h0, if_pos h0]; rfl
    · rw [if_neg h0, if_neg h0]; exact ⟨_, [], rfl, rfl, rfl⟩

set_option maxRecDepth 100000 in
theorem bare_c9 (S F : Nat → Prop) (B b : Nat) (rows : List (List Value)) (fg fo : Nat) (op : Int) (nm md : List UInt8) (nu : Int) (ys : Bool) (ks : List Sx) (ps : Int) (q : List Value) (w : World) (h : WrAt S B b w rows) (hl : rows.length ≤ 700000) (hF : ∀ k, F k → S k) (hSg : S 5) (hla : LaidW w)
    (hx : SAt F w (.mk op nm md nu ys ks ps) q) (hSf : S fg) (hc : ∀ i v, q[i]? = some v → w.cell? ⟨fg, fo + i, none⟩ = some v)
    (h1 : 1 ≤ op) (h2 : op ≤ 24) (hn : countB op ks.length = true) (hnl : nm.length ≤ 60000) (hml : md.length ≤ 60000) (hZ : nu.natAbs < Zd.Lim) :
    Calls Tryz.prog 95 #[.pointer (some ⟨b, 0, none⟩), .pointer (some ⟨fg, fo, none⟩)] w (BarePost S F B b rows (bareP (.mk op nm md nu ys ks ps)) w) := by
  simp only [SAt] at hx
  obtain ⟨s, pw, nw, cw, pk, ck, kr, rfl, hi, -, hG, hls, hk⟩ := hx
  have c0 := hc 0 _ rfl
  have c1 := hc 1 _ rfl
  have c2 := hc 2 _ rfl
  have c3 := hc 3 _ rfl
  have c4 := hc 4 _ rfl
  have c5 := hc 5 _ rfl
  have c6 := hc 6 _ rfl
  clear hc
  unfold strV at c1 c2
  have hbs : ∀ l, PcsAt F w [Pc.bs l] [rowB l] := fun l => ⟨_, [], rfl, rfl, rfl⟩
  have hone : ∀ {p : Pc} {r : List Value}, PcAt F w p r → PcsAt F w [p] [r] := fun h => ⟨_, [], rfl, h, rfl⟩
  obtain ⟨gk, ok, hpk, hkp⟩ : ∃ gk ok, (0 < ks.length → pk = some ⟨gk, ok, none⟩) ∧ ∀ (j : Nat) (x : Sx) (least : Nat), ks[j]? = some x → PcAt F w (.ex x least) (rowX gk (ok + j * 8) ((least : Nat) : Int)) := by
    by_cases h0 : ks = []
    · subst h0; exact ⟨0, 0, fun h => absurd h (by simp), fun j x least h => by simp at h⟩
    · obtain ⟨a, rfl, hFa, hfl⟩ := hk h0
      have hG0 := hG
      rcases hG with hG | ⟨g, off, he, -, -⟩
      · exact absurd (List.eq_nil_of_length_eq_zero (by rw [← hls.len, hG]; rfl)) h0
      · injection he with he
        subst he
        exact ⟨g, off, fun _ => rfl, fun j x least hx => kid_pc hG0 hls hFa hfl hx least⟩
  have hK : ∀ (j least : Nat), j < ks.length → PcAt F w (.ex (ks.getD j nilS) least) (rowX gk (ok + j * 8) ((least : Nat) : Int)) := fun j least hj => hkp j _ least (getD_some hj)
  clear hk hG hls
  unfold countB at hn
  simp only [bareP]
  by_cases e1 : op = 1
  · subst e1
    exact (bare_lit S B b rows fg fo nu s pw nw cw w h hl c0 c3 c4 hi hZ).mono (fun e w' h => of_pc h (hbs _) hF)
  rw [if_neg e1]
  by_cases e2 : op = 2
  · subst e2
    exact (bare_truth S B b rows fg fo ys w h hl c0 c5).mono (fun e w' h => of_pc h (hbs _) hF)
  rw [if_neg e2]
  by_cases e3 : op = 3
  · subst e3
    exact (bare_word S B b rows fg fo nm 3 (.inl rfl) w h hl c0 c1).mono (fun e w' h => of_pc h (hbs _) hF)
  rw [if_neg e3]
  by_cases e4 : op = 4
  · subst e4
    exact (bare_word S B b rows fg fo nm 4 (.inr rfl) w h hl c0 c1).mono (fun e w' h => of_pc h (hbs _) hF)
  rw [if_neg e4]
  rw [if_neg (by omega)] at hn
  by_cases e5 : op = 5 ∨ op = 6
  · rw [if_pos (by omega)] at hn
    have hn := of_decide_eq_true hn
    rw [hn, hpk (by omega)] at c6
    have h9 := bare_one S B b rows fg fo gk ok ck op e5 w h hl hSf c0 c6
    refine h9.mono (fun e w' h => ?_)
    rcases e5 with rfl | rfl
    · exact of_pc h (PcsAt.app (hbs _) (hone (hK 0 9 (by omega)))) hF
    · exact of_pc h (PcsAt.app (hbs _) (hone (hK 0 4 (by omega)))) hF
  rw [if_neg (by omega), if_neg (by omega)]
  rw [if_neg (by omega)] at hn
  by_cases e21 : op = 21
  · subst e21
    rw [if_neg (by omega), if_pos rfl] at hn
    have hn := of_decide_eq_true hn
    rw [hn, hpk (by omega)] at c6
    refine (bare_if S B b rows fg fo gk ok ck w h hl hSf c0 c6).mono (fun e w' h => of_pc h ?_ hF)
    exact ⟨_, _, rfl, rfl, _, _, rfl, hK 0 0 (by omega), _, _, rfl, rfl, _, _, rfl, hK 1 0 (by omega), _, _, rfl, rfl, _, _, rfl, hK 2 0 (by omega), rfl⟩
  rw [if_neg e21]
  by_cases e22 : op = 22
  · subst e22
    rw [if_pos (by omega)] at hn
    have hn := of_decide_eq_true hn
    rw [hn, hpk (by omega)] at c6
    refine (bare_let S B b rows fg fo gk ok ck nm w h hl hnl hSf c0 c1 c6).mono (fun e w' h => of_pc h ?_ hF)
    exact ⟨_, _, rfl, rfl, _, _, rfl, hK 0 0 (by omega), _, _, rfl, rfl, _, _, rfl, hK 1 0 (by omega), rfl⟩
  rw [if_neg e22]
  by_cases e23 : op = 23
  · subst e23
    rw [if_pos (by omega)] at hn
    have hn := of_decide_eq_true hn
    rw [hn, hpk (by omega)] at c6
    refine (bare_assert S B b rows fg fo gk ok ck w h hl hSf c0 c6).mono (fun e w' h => of_pc h ?_ hF)
    exact ⟨_, _, rfl, rfl, _, _, rfl, hK 0 0 (by omega), _, _, rfl, rfl, _, _, rfl, hK 1 0 (by omega), rfl⟩
  rw [if_neg e23]
  by_cases e24 : op = 24
  · subst e24
    rw [if_neg (by omega), if_neg (by omega)] at hn
    have hn := of_decide_eq_true hn
    refine (bare_call S B b rows fg fo gk ok ks.length ck pk nm md w h hl hn hnl hml hSf hpk c0 c1 c2 c6).mono (fun e w' h => of_pc h ?_ hF)
    have ha := args_pc (F := F) (w := w) (gk := gk) (ok := ok) (ks := ks) (fun j x hx => hkp j x 0 hx) ks.length (Nat.le_refl _)
    rw [List.take_length] at ha
    refine PcsAt.app (PcsAt.app (PcsAt.app ?_ (hbs _)) ha) (hbs _)
    by_cases hm : md = []
    · rw [if_pos hm, if_pos hm]; rfl
    · rw [if_neg hm, if_neg hm]; exact hbs _
  rw [if_neg e24]
  rw [if_pos (by omega)] at hn
  have hn := of_decide_eq_true hn
  rw [hn, hpk (by omega)] at c6
  obtain ⟨j, rfl⟩ : ∃ j : Nat, op = ((7 + j : Nat) : Int) := ⟨(op - 7).toNat, by omega⟩
  have hj : j < signs9.length := by show j < 14; omega
  have hsg := List.getElem?_eq_getElem hj
  refine (bare_signed S B b rows fg fo gk ok ck j _ w h hl hsg hSf hSg hla c0 c6).mono (fun e w' h => of_pc h ?_ hF)
  rw [signT_get hsg]
  exact ⟨_, _, rfl, hK 0 _ (by omega), _, _, rfl, rfl, _, _, rfl, by have := hK 1 (sideB (levS ((7 + j : Nat) : Int))) (by omega); rwa [Nat.one_mul] at this, rfl⟩

/-- What a call that answers a list of places leaves. -/
def CLPost (b bb : Nat) (T : List Tok) (D n k : Nat) (A0 : Nat → Prop) (vn0 : Value) (w0 : World) (s : St) (r : RT) (N : List Nd) (L : List (Value × Th)) (e : Ending) (w' : World) : Prop :=
  ∃ (v : Value) (vs : List Int) (N' : List Nd) (vn' : Value), e = .returned v ∧ KX b bb T D n A0 vn0 w0 w' r.2 r.2.i N' vn' ((v, .ints vs) :: L) ∧ OutL k N s r N' vs ∧ (s.e ≠ 0 → r.2.e ≠ 0) ∧ vs.length ≤ 300
def boxV (g : Nat) : Value := .slice (some ⟨g, 0, none⟩) 1 1
def boxT (b : Nat) : Th := .box (.pointer (some ⟨b, 0, none⟩))
/-- What a closure over the parser does. -/
def SubF (b bb : Nat) (T : List Tok) (D n : Nat) (P : St → Prop) (f : Nat) (sub : St → RT) : Prop :=
  ∀ (A0 : Nat → Prop) (vn0 : Value) (w0 w : World) (s : St) (N : List Nd) (vn : Value) (L : List (Value × Th)) (g : Nat), P s → KX b bb T D n A0 vn0 w0 w s s.i N vn L → (boxV g, boxT b) ∈ L → Calls Tryz.prog f #[.pointer (some ⟨g, 0, none⟩)] w (CPost b bb T D n 0 A0 vn0 w0 s (sub s) N L)

section
variable {b bb : Nat} {T : List Tok} {D n : Nat} {A0 : Nat → Prop} {vn0 : Value} {w0 w w' : World} {s : St} {u : Nat} {N : List Nd} {vn : Value} {L : List (Value × Th)}
theorem KX.room (h : KX b bb T D n A0 vn0 w0 w s u N vn L) : N.length ≤ 2 * u := by
  obtain ⟨A, h1, -⟩ := h
  exact h1.few
theorem KX.boxc {g : Nat} {x : Value} (h : KX b bb T D n A0 vn0 w0 w s u N vn L) (hm : (boxV g, Th.box x) ∈ L) : w.cell? ⟨g, 0, none⟩ = some x := by
  obtain ⟨A, h1, h2, h3, -⟩ := h
  obtain ⟨g', e, hc⟩ := (h3 _ hm).1
  unfold boxV at e
  injection e with e1 e2 e3
  injection e1 with e1
  injection e1 with e1
  rw [e1]; exact hc
theorem vat1 (w : World) (x : Int) : VAt (w.alloc (.cells #[.int .i64 x] 3)) (some ⟨w.heap.size, 0, none⟩) (intsV [x]) := by
  refine .inr ⟨w.heap.size, 0, rfl, by simp, fun j v hj => ?_⟩
  rw [Nat.zero_add, cell_of_row _ _ j _ _ (0, 0) (heap_alloc_new w _)]
  simpa [intsV] using hj
end

section
variable (b bb : Nat) (T : List Tok) (D n : Nat)

set_option maxRecDepth 100000 in
set_option maxHeartbeats 8000000 in
theorem list_args (hC : TokC T) (sub : St → RT) (hS : SubF b bb T D n (fun s => s.inn = false) 167 sub) (hI : ∀ s, s.inn = false → (sub s).2.inn = false) {A0 : Nat → Prop} {vn0 : Value} {w0 w : World} {s : St} {N : List Nd} {vn : Value} {L : List (Value × Th)} {g : Nat} (hk : KX b bb T D n A0 vn0 w0 w s s.i N vn L) (hm : (boxV g, boxT b) ∈ L) (hi : s.inn = false) :
    Calls Tryz.prog 166 #[.pointer (some ⟨b, 0, none⟩), .func (.func 167) #[] #[.pointer (some ⟨g, 0, none⟩)]] w (CLPost b bb T D n 0 A0 vn0 w0 s (listP T sub s) N L) := by
  have HCC := Lib.hid hC; have HS := Lib.hid hS; have HI := Lib.hid hI; have HM := Lib.hid hm; have HIN := Lib.hid hi
  have HK := Lib.hid hk
  obtain ⟨R, hR⟩ : ∃ R, listP T sub s = R := ⟨_, rfl⟩
  have HRT : Hid (isQ T [41] s = true → R = ([], s)) := Lib.hid (fun h => by rw [← hR]; unfold listP; rw [if_pos h])
  have HRN : Hid (isQ T [41] s = false → loopP T sub 8 ([], s) = R) := Lib.hid (fun h => by rw [← hR]; unfold listP; rw [if_neg (by rw [h]; decide)])
  rw [hR]
  clear hC hS hI hm hk hi hR
  go_enter Tryz.func166, Tryz.ntmps166
  go_wp2_with fail
  refine (KX.at (ws := [[41]]) (HK.out.strs1 _ _) (List.mem_cons_self ..) (by decide)).mono ?_
  rintro e w1 ⟨rfl, hk⟩
  have HK := Lib.hid (hk.few (List.sublist_cons_self _ _))
  obtain ⟨a, ha⟩ : ∃ a, isQ T [41] s = a := ⟨_, rfl⟩
  rw [at_one HCC.out (by decide), ha]
  have HV := Lib.hid ha
  clear hk ha
  cases a
  · have HR := Lib.hid (HRN.out HV.out)
    go_wp2_with fail
    go_loopw [5, 9] (fun kv jv wr => ∃ (j : Nat) (r : RT) (N' : List Nd) (vn' : Value) (vs : List Int), j ≤ 8 ∧ jv = .int .i64 j ∧ Hid (KX b bb T D n A0 vn0 w0 wr r.2 r.2.i N' vn' ((kv, .ints vs) :: L)) ∧ Hid (OutL 0 N s r N' vs) ∧ Hid (loopP T sub (8 - j) r = R) ∧ Hid (vs.length ≤ 2 * j) ∧ Hid (s.e ≠ 0 → r.2.e ≠ 0) ∧ Hid (r.2.inn = false)) (fun _ jv _ => 8 - (intOf jv).toNat)
    case atStart => exact ⟨0, ([], s), N, vn, [], Nat.zero_le _, rfl, Lib.hid HK.out.nilS, Lib.hid (OutL.nil N s), HR, Lib.hid (Nat.le_refl _), Lib.hid (fun h => h), HIN⟩
    case round =>
      clear HK HR
      obtain ⟨j, r, N', vn', vs, hj, rfl, HK, HA, HR, HVS, HDD, HIN⟩ := hrel
      by_cases hlt : j < 8
      · have d1 : decide ((j : Int) < 8) = true := decide_eq_true (by omega)
        have d1' : decide (j < 8) = true := decide_eq_true hlt
        obtain ⟨m, hm⟩ : ∃ m, 8 - j = m + 1 := ⟨7 - j, by omega⟩
        have HMM := Lib.hid hm
        have HLP : Hid (loopP T sub (8 - j) r = if isQ T [44] (sub r.2).2 = true then loopP T sub m (r.1 ++ (sub r.2).1 ++ (leafT T (sub r.2).2).1, (leafT T (sub r.2).2).2) else (r.1 ++ (sub r.2).1, (sub r.2).2)) := Lib.hid (by rw [hm, loopP])
        rw [HLP.out] at HR
        clear hm HLP
        go_wp2_with fail
        refine (HS.out _ _ _ _ _ _ _ _ g HIN.out HK.out (List.mem_cons_of_mem _ HM.out)).mono ?_
        rintro e w2 ⟨v9, N9, vn9, rfl, hk9, ho9, hd9⟩
        have HK := Lib.hid hk9; have HA := Lib.hid (HA.out.app ho9.out hd9); have HDD := Lib.hid (fun h => hd9 (HDD.out h)); have HIN := Lib.hid (HI.out _ HIN.out)
        clear hk9 ho9 hd9
        go_wp2_with (at_builtin; go_loud (refine wpList_kx rfl _ _ rfl (HK.out.ints1 v9) (List.sublist_cons_self _ _) rfl rfl (l2 := [v9]) rfl (vat1 _ _) (by have := HVS.out; omega) (by simp) ?_))
        intro kv2 w3 hk3
        have HK := Lib.hid hk3; have HVS : Hid ((vs ++ [v9]).length ≤ 2 * j + 1) := Lib.hid (by have := HVS.out; rw [List.length_append]; show vs.length + 1 ≤ _; omega)
        clear hk3
        go_wp2_with fail
        refine (KX.at (ws := [[44]]) (HK.out.strs1 _ _) (List.mem_cons_self ..) (by decide)).mono ?_
        rintro e w4 ⟨rfl, hk⟩
        have HK := Lib.hid (hk.few (List.sublist_cons_self _ _))
        obtain ⟨a, ha⟩ : ∃ a, isQ T [44] (sub r.2).2 = a := ⟨_, rfl⟩
        rw [at_one HCC.out (by decide), ha]
        rw [ha] at HR
        have HV := Lib.hid ha
        clear hk ha
        cases a
        · rw [if_neg (by decide)] at HR
          go_wp2_with fail
          go_ret
          rw [← HR.out]
          exact ⟨_, _, _, _, rfl, HK.out, HA.out.weak (Nat.zero_le _), HDD.out, by have := HVS.out; omega⟩
        · rw [if_pos rfl] at HR
          have HLI := Lib.hid (is_kind HV.out)
          go_wp2_with fail
          refine (HK.out.take HCC.out HLI.out.1 HLI.out.2).mono ?_
          rintro e w5 ⟨v8, N8, vn8, rfl, hk8, ho8, hd8⟩
          have HK := Lib.hid hk8; have HA := Lib.hid (HA.out.app ho8.out hd8); have HDD := Lib.hid (fun h => hd8 (HDD.out h)); have HIN := Lib.hid ((leaf_keep T HLI.out.2).inn.trans HIN.out)
          clear hk8 ho8 hd8
          go_wp2_with (at_builtin; go_loud (refine wpList_kx rfl _ _ rfl (HK.out.ints1 v8) (List.sublist_cons_self _ _) rfl rfl (l2 := [v8]) rfl (vat1 _ _) (by have := HVS.out; omega) (by simp) ?_))
          intro kv3 w6 hk6
          have HK := Lib.hid hk6; have HVS : Hid ((vs ++ [v9, v8]).length ≤ 2 * (j + 1)) := Lib.hid (by have := HVS.out; rw [List.length_append] at this ⊢; simp only [List.length_cons, List.length_nil] at this ⊢; omega)
          clear hk6
          have HM1 : Hid (8 - (j + 1) = m) := Lib.hid (by have := HMM.out; omega)
          go_wp2_with fail
          go_roundw
          case rel => exact ⟨j + 1, (r.1 ++ (sub r.2).1 ++ (leafT T (sub r.2).2).1, (leafT T (sub r.2).2).2), N8, vn8, vs ++ [v9, v8], by omega, by go_num, HK, Lib.hid (by have h9 := HA.out.weak (Nat.zero_le _); rw [List.append_assoc vs] at h9; exact h9), Lib.hid (by rw [HM1.out]; exact HR.out), HVS, HDD, HIN⟩
          case measure => (simp [intOf] <;> omega)
      · obtain rfl : j = 8 := by omega
        have d1 : decide (((8 : Nat) : Int) < 8) = false := by decide
        have HRF : Hid (R = (r.1, failQ T 15 r.2)) := Lib.hid (by rw [← HR.out]; rfl)
        go_wp2_with fail
        refine (HK.out.fail 15 (by decide)).mono ?_
        rintro e w2 ⟨v9, N9, vn9, rfl, hk9, ho9, hd9⟩
        have HK := Lib.hid hk9; have HA := Lib.hid (HA.out.app ho9.out hd9); have HDD := Lib.hid (fun h => hd9 (HDD.out h))
        clear hk9 ho9 hd9
        go_wp2_with fail
        go_ret
        rw [HRF.out]
        exact ⟨_, _, _, _, rfl, HK.out, ⟨fun e => absurd e (fail_e T (by decide) _), HA.out.2⟩, HDD.out, by have := HVS.out; omega⟩
  · go_wp2_with fail
    go_ret
    rw [HRT.out HV.out]
    exact ⟨_, [], N, vn, rfl, HK.out.nilS, OutL.nil N s, fun h => h, by simp⟩

end
end Go.Proofs.YtddccnpohpaofaaGreatDoor
namespace Go.Proofs.YtddccnpohpaofaaGreatDoor

theorem tok_of : ∀ (f : Nat) (l : List UInt8) (p : Nat) (t : Tok), t ∈ (lexG f l p).1 → ∃ l' p', t = tokE l' p'
  | 0, l, p, t, h => by simp [lexG] at h
  | f + 1, l, p, t, h => by
    unfold lexG at h
    split at h
    · simp at h
    split at h
    · simp at h; exact ⟨l, p, h⟩
    · rcases List.mem_cons.1 h with rfl | h
      · exact ⟨l, p, rfl⟩
      · exact tok_of f _ _ t h
theorem ks_let : ∀ x ∈ KS, (x.head?.any isLet) = true → keysL.contains x = true := by decide
theorem ks_dig : ∀ x ∈ KS, (x.head?.any isDig) = false := by decide
theorem ks_nil : ([] : List UInt8) ∉ KS := by decide
theorem take_run (p : UInt8 → Bool) (a : UInt8) (r : List UInt8) (h : p a = true) : ((a :: r).take (runN p (a :: r))).head? = some a := by
  have : runN p (a :: r) = runN p r + 1 := by simp [runN, h]
  rw [this]; rfl
theorem first_keys (m : List UInt8) (h : m.take (firstE m).2 ∈ KS) : (firstE m).1 = 2 ∨ (firstE m).1 = 4 := by
  cases m with
  | nil => exact absurd h ks_nil
  | cons a r =>
    rw [firstE_cons] at h ⊢
    by_cases h1 : isLet a = true
    · rw [if_pos h1] at h ⊢
      have hw : inW a = true := by unfold inW; rw [h1]; rfl
      have hh := take_run inW a r hw
      have := ks_let _ h (by simp only [] at hh ⊢; rw [hh]; simpa using h1)
      simp only [] at this ⊢
      rw [if_pos this]; exact .inl rfl
    · rw [if_neg h1] at h ⊢
      by_cases h2 : isDig a = true
      · rw [if_pos h2] at h
        have hh := take_run isDig a r h2
        have := ks_dig _ h
        simp only [] at hh this
        rw [hh] at this
        simp [h2] at this
      · rw [if_neg h2] at h ⊢
        by_cases h3 : 0 < signN (a :: r)
        · rw [if_pos h3]; exact .inr rfl
        · rw [if_neg h3] at h
          exact absurd h ks_nil
theorem short_whole {L : List Tok} {n : Nat} (h : (wholeL L).length ≤ n) (hn : n ≤ 1000000) : Short L := fun t ht => by
  obtain ⟨k, hk⟩ := List.getElem?_of_mem ht
  have h1 := wholeL_next hk
  have h2 := wholeL_take L (k + 1)
  rw [h1, List.length_append, List.length_append] at h2
  omega
theorem tokC_all {l : List UInt8} (h : (allE l).2.1 = 0) (hl : l.length ≤ 30000) : TokC (allE l).1 := by
  have h1 := len_all h
  refine ⟨by omega, short_whole (n := 30000) (by rw [whole_all h]; exact hl) (by omega), (end_all h).1, fun i t ht hk => ?_⟩
  obtain ⟨l', p', rfl⟩ := tok_of _ _ _ t (List.mem_of_getElem? ht)
  exact first_keys _ hk
end Go.Proofs.YtddccnpohpaofaaGreatDoor
