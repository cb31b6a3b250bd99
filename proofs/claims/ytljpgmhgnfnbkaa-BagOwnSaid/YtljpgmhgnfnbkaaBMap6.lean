/- slices.AppendSeq and slices.Collect of pairs, against whatever iterator. -/
import Derived.Test.YtljpgmhgnfnbkaaBMap5
import Derived.Test.YtljpgmhgnfnbkaaBPair1
namespace Go.Proofs.Ytljpgmhgnfnbkaa
open Go.RowKit Go.Maps Go.Sort Go.Shelf Mx

def apA : Code := (Code.region 2 #[{ dst := some 5, op := Op.alloc 60, type := 0, pos := "iter.go:51", after := #[], guard := none }, { dst := none, op := Op.store 60 (Operand.tmp 5) (Operand.tmp 7), type := 0, pos := "iter.go:51", after := #[{ on := 0, ground := Ground.data }, { on := 0, ground := Ground.phase }], guard := none }] false)
def apB : Code := (Code.block 1 (Code.region 3 #[{ dst := some 8, op := Op.load 58 (Operand.tmp 2), type := 58, pos := "iter.go:52", after := #[], guard := none }, { dst := some 9, op := Op.load 60 (Operand.tmp 5), type := 60, pos := "iter.go:52", after := #[], guard := none }, { dst := some 10, op := Op.buildSlice 58 1 #[(0, Operand.tmp 9)], type := 58, pos := "iter.go:52", after := #[{ on := 1, ground := Ground.data }], guard := none }, { dst := some 11, op := Op.call { callee := Callee.builtin Builtin.append, args := #[Operand.tmp 8, Operand.tmp 10], argTypes := #[58, 58] }, type := 58, pos := "iter.go:52", after := #[{ on := 0, ground := Ground.data }, { on := 2, ground := Ground.data }], guard := none }, { dst := none, op := Op.store 58 (Operand.tmp 2) (Operand.tmp 11), type := 0, pos := "iter.go:52", after := #[{ on := 3, ground := Ground.data }, { on := 3, ground := Ground.chain }, { on := 0, ground := Ground.phase }, { on := 1, ground := Ground.phase }, { on := 2, ground := Ground.phase }, { on := 3, ground := Ground.phase }], guard := none }] false))
def apR (fn : FuncId) (sv : Value) (Bs D : Nat) (st : LoopState) (pend : Option Code) : Loop :=
  { state := st, pending := pend, fn, tmps := #[.slice none 0 0, sv, .pointer (some ⟨Bs, 0, none⟩), undef, .slice none 0 0, undef, sv, undef, undef, undef, undef, undef, undef], params := #[7], assign := apA, body := apB, defers := D }

theorem infoPb : (Try.prog.info? 60).map (fun i => (i.zero, i.size, i.bytes)) = some (some (.agg #[.int .i64 0, .int .i64 0]), 2, 16) := by kernel_rfl

theorem new2 (w : World) (a b : Value) (T : TypeId) : ∀ j u, [a, b][j]? = some u → (w.alloc (.cells #[a, b] T)).cell? ((⟨w.heap.size, 0, none⟩ : Addr).add j) = some u := by
  intro j u hj
  rw [Addr.add_lit, cell_of_row _ w.heap.size _ _ _ (0, 0) (heap_alloc_new w _)]
  match j, hj with
  | 0, hj => simp at hj; subst hj; rfl
  | 1, hj => simp at hj; subst hj; rfl

/-- Between two rounds. -/
structure ApP (w0 : World) (fn : FuncId) (sv : Value) (Bs l D : Nat) (ss : List (Int × Int)) (W : World) : Prop where
  box : ∃ v, W.heap[Bs]? = some (.cells #[v] 58 (0, 0)) ∧ W.ownsRow w0.heap.size 60 2 v ss.length (cellsP ss) ∧ (v = .slice none 0 0 ↔ ss = [])
  L : W.heap[l]? = some (.loop (apR fn sv Bs D .ready none))
  K : W.heap[D]? = some (.deferred (some []))
  below : Below w0.heap.size w0 W

theorem apP_abides (w0 : World) (fn : FuncId) (sv : Value) (Bs l D B : Nat) (hB : w0.heap.size ≤ B) : AbidesFrom B (ApP w0 fn sv Bs l D) := fun s W W' row h hg hrow => by
  have hrow' : ∀ r, row = some r → ∃ o : Obj, W.heap[r]? = some o ∧ o.isWalk = true := fun r e => (hrow r e).2
  obtain ⟨v, hv, hr, hn⟩ := h.box
  exact ⟨⟨v, (grownBy_keeps hg hrow' hv rfl).trans hv, ownsRow_abides_a hr hg hrow', hn⟩, (grownBy_keeps hg hrow' h.L rfl).trans h.L, (grownBy_keeps hg hrow' h.K rfl).trans h.K,
    h.below.grown hg h.below.size (fun k e => Nat.le_trans hB (hrow k e).1)⟩

set_option maxRecDepth 100000 in
set_option maxHeartbeats 2000000 in
theorem apYieldP (F : Fence) (m : Nat) (w0 : World) (fn : FuncId) (hfn : F.fn fn) (sv : Value) (Bs l D : Nat) (hBl : Bs ≠ l) (hDl : D ≠ l) (hDB : D ≠ Bs) (h0B : w0.heap.size ≤ Bs) (h0l : w0.heap.size ≤ l)
    (N : Nat) (hN : N ≤ maxLen) (hNb : N * 16 ≤ 140737488355328) (ss : List (Int × Int)) (x : Int × Int) (W : World) (h : ApP w0 fn sv Bs l D ss W) (hlen : ss.length < N) :
    YieldAt F m Try.prog l #[encP x] W fun e W' => e = .returned (.bool true) ∧ ApP w0 fn sv Bs l D (ss ++ [x]) W' ∧ KeepsWalks W W' := by
  obtain ⟨i0, hi, hz0, hz1, hz2⟩ := info_parts infoPb
  obtain ⟨v, hv, hrow, _⟩ := h.box
  obtain ⟨x1, x2⟩ := x
  refine ⟨fn, #[.slice none 0 0, sv, .pointer (some ⟨Bs, 0, none⟩), undef, .slice none 0 0, undef, sv, encP (x1, x2), undef, undef, undef, undef, undef], apA, apB, by simpa [apR] using run_yield (P := Try.prog) (args := #[encP (x1, x2)]) h.L rfl, roundIn_of_wpIn hfn ?_⟩
  have hl0 : l < W.heap.size := (Array.getElem?_eq_some_iff.1 h.L).1
  obtain ⟨Wa, hWa⟩ : ∃ Wa, W.alloc (.cells #[.int .i64 x1, .int .i64 x2] 60) = Wa := ⟨_, rfl⟩
  have hga : W.grownBy Wa none := hWa ▸ World.grownBy_alloc W _ none
  have hnba : Wa.heap[W.heap.size]? = some (.cells #[.int .i64 x1, .int .i64 x2] 60 (0, 0)) := hWa ▸ heap_alloc_new W _
  have hva := bx hga hv
  have hKa := bx hga h.K
  have hLa := bx hga h.L
  have hrowa : Wa.ownsRow w0.heap.size 60 2 v ss.length (cellsP ss) := hWa ▸ hrow.alloc _
  have hba : Below w0.heap.size w0 Wa := hWa ▸ h.below.alloc h.below.size _
  have hka : KeepsWalks W Wa := hWa ▸ KeepsWalks.alloc _ _
  have hbr := run_beginRound (P := Try.prog) hLa rfl
  have hla : l < Wa.heap.size := (Array.getElem?_eq_some_iff.1 hLa).1
  obtain ⟨W4, hW4⟩ : ∃ W4, Wa.putObj l (.loop { apR fn sv Bs D .ready none with state := .busy }) = W4 := ⟨_, rfl⟩
  rw [hW4] at hbr
  have hg4 : Wa.grownBy W4 (some l) := by rw [← hW4]; exact grownBy_putObj_a _ _ _
  have hk4 : KeepsWalks W W4 := hka.trans (by rw [← hW4]; exact KeepsWalks.putObj _ hLa rfl)
  have hv4 : W4.heap[Bs]? = some (.cells #[v] 58 (0, 0)) := by rw [← hW4]; exact (World.putObj_heap_other hBl).trans hva
  have hK4 : W4.heap[D]? = some (.deferred (some [])) := by rw [← hW4]; exact (World.putObj_heap_other hDl).trans hKa
  have hL4 : W4.heap[l]? = some (.loop { apR fn sv Bs D .ready none with state := .busy }) := by rw [← hW4]; exact World.putObj_heap_same hla
  have hnb : W4.heap[W.heap.size]? = some (.cells #[.int .i64 x1, .int .i64 x2] 60 (0, 0)) := by rw [← hW4]; exact (World.putObj_heap_other (by omega)).trans hnba
  have hrow4 : W4.ownsRow w0.heap.size 60 2 v ss.length (cellsP ss) := hrowa.kept hg4 (ownsRow_ne_a hrowa hLa (fun cur e => by cases e))
  have hb4 : Below w0.heap.size w0 W4 := hba.grown hg4 hba.size (fun k e => by cases e; exact h0l)
  have ne_of : ∀ {W3 : World} {j : Nat} {o : Obj}, W3.ownsRow w0.heap.size 60 2 v ss.length (cellsP ss) → W3.heap[j]? = some o → (∀ cur, o ≠ .cells cur 60 (0, 0)) → some j ≠ v.ownBlock := fun hr hj hno => by
    rcases ownsRow_ne_a hr hj hno with e | e
    · rw [e]; simp
    · exact fun e' => e e'.symm
  obtain ⟨hc4, hf4⟩ := cell_of_box_a hv4
  obtain ⟨u0, u1⟩ : W4.cell? ⟨W.heap.size, 0, none⟩ = some (.int .i64 x1) ∧ W4.cell? ⟨W.heap.size, 1, none⟩ = some (.int .i64 x2) := ⟨by rw [cell_of_row _ _ 0 _ _ (0, 0) hnb]; rfl, by rw [cell_of_row _ _ 1 _ _ (0, 0) hnb]; rfl⟩
  have hBlt : Bs < W4.heap.size := (Array.getElem?_eq_some_iff.1 hv4).1
  have hl4 : l < W4.heap.size := (Array.getElem?_eq_some_iff.1 hL4).1
  have hDlt : D < W4.heap.size := (Array.getElem?_eq_some_iff.1 hK4).1
  unfold apA encP
  gi_wp2_with gi_round_op_a
  clear hbr hWa hW4 hva hKa hLa hga hnba
  obtain ⟨Wn, hWn⟩ : ∃ Wn, W4.alloc (.cells #[.int .i64 x1, .int .i64 x2] 60) = Wn := ⟨_, rfl⟩
  have hgn : W4.grownBy Wn none := hWn ▸ World.grownBy_alloc W4 _ none
  have hrown : Wn.ownsRow w0.heap.size 60 2 v ss.length (cellsP ss) := hWn ▸ hrow4.alloc _
  have hbn : Below w0.heap.size w0 Wn := hWn ▸ hb4.alloc hb4.size _
  have hkn : KeepsWalks W Wn := hWn ▸ hk4.trans (KeepsWalks.alloc _ _)
  have hvn := bx hgn hv4
  have hKn := bx hgn hK4
  have hLn := bx hgn hL4
  have HNW : Hid (∀ j u, [Value.int .i64 x1, .int .i64 x2][j]? = some u → Wn.cell? ((⟨W4.heap.size, 0, none⟩ : Addr).add j) = some u) := Lib.hid (hWn ▸ new2 W4 _ _ _)
  have HVN := Lib.hid hvn; have HKN := Lib.hid hKn; have HLN := Lib.hid hLn; have HGN := Lib.hid hgn
  have HL4 := Lib.hid hL4; have HK4 := Lib.hid hK4
  clear hvn hKn hLn hgn hL4 hK4 hv4 hnb
  unfold apB
  gi_wp2_with (first
    | (gi_at_builtin; refine wpListIn_append_own _ rfl _ _ 58 rfl w0.heap.size 60 i0 (.agg #[.int .i64 0, .int .i64 0]) 2 16 Try.underlying58 hi hz0 hz1 hz2 rfl (by decide) _ _ _ rfl hrown ⟨W4.heap.size, 0, none⟩ 1 1 [.int .i64 x1, .int .i64 x2] rfl rfl HNW.out (by simp [Value.oneCell']) (by omega) (by omega) (by have := hbn.size; omega) ?_; intro v' w3 hown' hg3 hnil3
       have hv3 : w3.heap[Bs]? = some (.cells #[v] 58 (0, 0)) := (hg3.block Bs (Array.getElem?_eq_some_iff.1 HVN.out).1 (ne_of hrown HVN.out (fun cur e => by cases e))).trans HVN.out
       obtain ⟨hc3, hf3⟩ := cell_of_box_a hv3
       obtain ⟨g', cap', cur', rfl, hbase', hgb', hr1, hr2, hr3, hr4⟩ : ∃ g' cap' cur', v' = .slice (some ⟨g', 0, none⟩) (ss.length + 1) cap' ∧ w0.heap.size ≤ g' ∧ w3.heap[g']? = some (.cells cur' 60 (0, 0)) ∧ ss.length + 1 ≤ cap' ∧ cap' ≤ maxLen ∧ cur'.size = cap' * 2 ∧ cur'.toList.take ((ss.length + 1) * 2) = cellsP ss ++ [.int .i64 x1, .int .i64 x2] := by
         rcases hown'.2 with ⟨_, h0⟩ | h'
         · exact absurd h0 (by omega)
         · exact h'
       go_frame)
    | gi_round_op_a)
  have hL3 : w3.heap[l]? = some (.loop { apR fn sv Bs D .ready none with state := .busy }) := (hg3.block l (Array.getElem?_eq_some_iff.1 HLN.out).1 (ne_of hrown HLN.out (fun cur e => by cases e))).trans HLN.out
  have hK3 : w3.heap[D]? = some (.deferred (some [])) := (hg3.block D (Array.getElem?_eq_some_iff.1 HKN.out).1 (ne_of hrown HKN.out (fun cur e => by cases e))).trans HKN.out
  obtain ⟨w5, hw5⟩ : ∃ w5, w3.setCell ⟨Bs, 0, none⟩ (.slice (some ⟨g', 0, none⟩) (ss.length + 1) cap') = w5 := ⟨_, rfl⟩
  rw [hw5]
  have hg5 : w3.grownBy w5 (some Bs) := by rw [← hw5]; exact grownBy_setCell0_a _ _ _
  have hv5 : w5.heap[Bs]? = some (.cells #[.slice (some ⟨g', 0, none⟩) (ss.length + 1) cap'] 58 (0, 0)) := by rw [← hw5]; exact heap_setCell_box_a _ hv3
  have hL5 : w5.heap[l]? = some (.loop { apR fn sv Bs D .ready none with state := .busy }) := (hg5.block l (Array.getElem?_eq_some_iff.1 hL3).1 (fun e => hBl (by cases e; rfl))).trans hL3
  have hK5 : w5.heap[D]? = some (.deferred (some [])) := (hg5.block D (Array.getElem?_eq_some_iff.1 hK3).1 (fun e => hDB (by cases e; rfl))).trans hK3
  have hrow5 := hown'.kept hg5 (ownsRow_ne_a hown' hv3 (fun cur e => by cases e))
  have hl5 : l < w5.heap.size := (Array.getElem?_eq_some_iff.1 hL5).1
  have hb3 : Below w0.heap.size w0 w3 := hbn.grown hg3 hbn.size (fun k e => (hrown.lt k e).1)
  have hb5 : Below w0.heap.size w0 w5 := hb3.grown hg5 hb3.size (fun k e => by cases e; exact h0B)
  have hk5 : KeepsWalks W w5 := (hkn.trans (KeepsWalks.of_grownBy hg3 (ownsRow_not_walk_a hrown))).trans (by rw [← hw5]; exact KeepsWalks.setCell _ _ _)
  clear hw5
  refine ⟨_, _, run_endRound none hL5, rfl, ⟨⟨_, (World.putObj_heap_other hBl).trans hv5, ?_, by simp⟩, World.putObj_heap_same hl5, (World.putObj_heap_other hDl).trans hK5, hb5.grown (grownBy_putObj_a _ _ _) hb5.size (fun k e => by cases e; exact h0l)⟩, hk5.trans (KeepsWalks.putObj _ hL5 rfl)⟩
  have := hrow5.kept (grownBy_putObj_a w5 l (.loop { { apR fn sv Bs D .ready none with state := .busy } with state := if (none : Option Code).isNone then .ready else .done, pending := none })) (ownsRow_ne_a hrow5 hL5 (fun cur e => by cases e))
  simpa [cellsP_append, cellsP] using this
end Go.Proofs.Ytljpgmhgnfnbkaa
