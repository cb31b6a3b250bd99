/- What a node may be: eachBelow, rightNode, rightNodes. -/
import Derived.Test.YthclkbaankjbiaaGreatDoorM7
import Derived.WalkSmall
namespace Go.Proofs.YthclkbaankjbiaaGreatDoor
open Go.RowKit

def okB (n : Nat) (l : List Int) : Bool := l.all fun k => decide (0 ≤ k ∧ k < (n : Int))
theorem okB_true {n : Nat} {l : List Int} (h : ∀ k ∈ l, 0 ≤ k ∧ k < (n : Int)) : okB n l = true := by
  unfold okB; rw [List.all_eq_true]; exact fun k hk => decide_eq_true (h k hk)
theorem okB_false {n : Nat} {l : List Int} {j : Nat} {x : Int} (hx : l[j]? = some x) (h : ¬ (0 ≤ x ∧ x < (n : Int))) : okB n l = false := by
  unfold okB; rw [List.all_eq_false]; exact ⟨x, List.mem_of_getElem? hx, by simpa using h⟩
theorem okB_iff {n : Nat} {l : List Int} : okB n l = true ↔ ∀ k ∈ l, 0 ≤ k ∧ k < (n : Int) := by
  unfold okB; rw [List.all_eq_true]; exact forall₂_congr fun k _ => decide_eq_true_iff

set_option maxRecDepth 100000 in
set_option maxHeartbeats 4000000 in
theorem eachBelow_c (n : Nat) (l : List Int) (p : Option Addr) (c : Nat) (w : World) (hn : n ≤ 1000000) (hl : l.length ≤ 1000000) (h : VAt w p (intsV l)) :
    Calls Tryz.prog 73 #[.int .i64 (n : Int), .slice p l.length c] w (ValPost (.bool (okB n l)) w) := by
  obtain ⟨m, hm⟩ : ∃ m, l.length = m := ⟨_, rfl⟩
  have HM := Lib.hid hm
  have HV := Lib.hid h
  rw [hm] at hl ⊢
  clear hm h
  go_enter Tryz.func73, Tryz.ntmps73
  go_wp2_with fail
  go_loopw [9] (fun v wr => ∃ k : Nat, k ≤ m ∧ v = .int .i64 k ∧ wr = w ∧ Hid (∀ (j : Nat) (x : Int), j < k → l[j]? = some x → 0 ≤ x ∧ x < (n : Int))) (fun v _ => m - (intOf v).toNat)
  case atStart => exact ⟨0, Nat.zero_le _, rfl, rfl, Lib.hid (fun j x h => by omega)⟩
  case round =>
    obtain ⟨k, hk, rfl, rfl, HK⟩ := hrel
    by_cases hlt : k < m
    · have d1 : decide ((k : Int) < (m : Int)) = true := decide_eq_true (by omega)
      have d1' : decide (k < m) = true := decide_eq_true hlt
      obtain ⟨x, hx⟩ : ∃ x, l[k]? = some x := ⟨l[k]'(by rw [HM.out]; exact hlt), List.getElem?_eq_getElem _⟩
      obtain ⟨g, off, rfl, hgl, c0⟩ := kid_at HV.out hx
      have HX := Lib.hid hx
      clear hx
      by_cases h0 : x < 0
      · have d2 : decide (x < 0) = true := decide_eq_true h0
        go_wp2_with fail
        go_ret
        exact ⟨by rw [okB_false HX.out (by omega)]; rfl, gb_refl _ _⟩
      · have d2 : decide (x < 0) = false := decide_eq_false h0
        by_cases h1 : (n : Int) ≤ x
        · have d3 : decide ((n : Int) ≤ x) = true := decide_eq_true h1
          go_wp2_with fail
          go_ret
          exact ⟨by rw [okB_false HX.out (by omega)]; rfl, gb_refl _ _⟩
        · have d3 : decide ((n : Int) ≤ x) = false := decide_eq_false h1
          go_wp2_with fail
          go_roundw
          case rel => exact ⟨k + 1, by omega, by go_num, by first | rfl | trivial, Lib.hid (fun j y hj hy => by
            by_cases e : j = k
            · subst e; rw [HX.out] at hy; cases hy; omega
            · exact HK.out j y (by omega) hy)⟩
          case measure => (simp [intOf] <;> omega)
    · obtain rfl : k = m := by omega
      go_wp2_with fail
      go_ret
      exact ⟨by rw [okB_true fun y hy => by
        obtain ⟨j, hj⟩ := List.getElem?_of_mem hy
        have := (List.getElem?_eq_some_iff.1 hj).1
        rw [HM.out] at this
        exact HK.out j y this hj]; rfl, gb_refl _ _⟩

set_option maxRecDepth 100000 in
set_option maxHeartbeats 8000000 in
theorem rightNode_c {m : Nat} (N : List Nd) (K : Nat → Option Addr × Nat) (hf : Forms m N) (hN : N.length ≤ 10000) (pt pn : Option Addr) (mt ct cn n : Nat) (hn : n < N.length) (w : World) (hw : NodesAt w pn N K) :
    Calls Tryz.prog 53 #[.agg #[.slice pt mt ct, .slice pn N.length cn], .int .i64 (n : Int)] w (ValPost (.bool true) w) := by
  obtain ⟨x, hx⟩ : ∃ x, N[n]? = some x := ⟨N[n], List.getElem?_eq_getElem _⟩
  obtain ⟨f1, f2, f3, f4, f5⟩ := hf.2.1 n x hx
  have hll : x.kids.length ≤ 10000 := by
    have h1 := sz_le hf hn
    have h2 := kids_len hf hx
    omega
  obtain ⟨g, off, rfl, hgl, c0, c1, c2⟩ := node_at hw hx
  have HKK := Lib.hid (hw.2 n x hx)
  have HE := Lib.hid (fun W p c h => eachBelow_c n x.kids p c W (by omega) (by omega) h)
  have HOK := Lib.hid (okB_true f5)
  obtain ⟨M, hM⟩ : ∃ M, N.length = M := ⟨_, rfl⟩
  rw [hM] at hn ⊢
  have d1 : decide (n < M) = true := decide_eq_true hn
  have d1' : decide ((n : Int) < (M : Int)) = true := decide_eq_true (by omega)
  have H3 := Lib.hid f3
  obtain ⟨kd, hkd⟩ : ∃ kd, x.kind = kd := ⟨_, rfl⟩
  obtain ⟨tk, htk⟩ : ∃ tk, x.tok = tk := ⟨_, rfl⟩
  obtain ⟨kl, hkl⟩ : ∃ kl, x.kids.length = kl := ⟨_, rfl⟩
  obtain ⟨kq, hkq⟩ : ∃ kq, (K n).1 = kq := ⟨_, rfl⟩
  obtain ⟨kc, hkc⟩ : ∃ kc, (K n).2 = kc := ⟨_, rfl⟩
  rw [hkd] at f1 f2 f4 H3 c0
  rw [htk] at f4 c1
  rw [hkl] at HE c2 hll
  rw [hkq] at HKK c2
  rw [hkc] at c2
  have H30 : Hid (kd = 19 → kl = 0) := Lib.hid (fun h => by rw [← hkl, (H3.out h).1]; rfl)
  clear f3 f5 hkd htk hkl hkq hkc hx hw hM H3
  go_enter Tryz.func53, Tryz.ntmps53
  by_cases h19 : kd = 19
  · subst h19
    have hk0 := H30.out rfl
    subst hk0
    go_wp2_with fail
    go_ret
    exact ⟨rfl, gb_alloc (World.grownBy_alloc w _ none) _⟩
  · have d2 : (kd == 19) = false := beq_eq_false_iff_ne.2 h19
    have d3 : decide (1 ≤ kd) = true := decide_eq_true f1
    have d4 : decide (kd < 19) = true := decide_eq_true (by omega)
    have ht := f4 h19
    subst ht
    go_wp2_with fail
    have hgA := gb_alloc (World.grownBy_alloc w (.cells #[.slice pt mt ct, .slice (some ⟨g, off, none⟩) M cn] 26) none) (.cells #[.int .i64 kd, .int .i64 (-1), .slice kq kl kc] 39)
    refine (HE.out _ kq kc (HKK.out.kept hgA)).mono ?_
    rintro e w1 ⟨rfl, hg⟩
    rw [HOK.out]
    have HG := Lib.hid (gb_trans hgA hg)
    clear hgA hg
    go_wp2_with fail
    go_ret
    exact ⟨rfl, HG.out⟩

theorem cells_tree {w : World} {b : Nat} {a c : Value} {T : TypeId} (h : w.heap[b]? = some (.cells #[a, c] T (0, 0))) : w.cell? ⟨b, 0, none⟩ = some a ∧ w.cell? ⟨b, 1, none⟩ = some c := ⟨(cells2 h).1, (cells2 h).2.1⟩

set_option maxRecDepth 100000 in
set_option maxHeartbeats 8000000 in
theorem rightNodes_c {m : Nat} (N : List Nd) (K : Nat → Option Addr × Nat) (hf : Forms m N) (hN : N.length ≤ 10000) (pt pn : Option Addr) (mt ct cn : Nat) (w : World) (hw : NodesAt w pn N K) :
    Calls Tryz.prog 25 #[.agg #[.slice pt mt ct, .slice pn N.length cn]] w (ValPost (.bool true) w) := by
  have HR := Lib.hid (fun n hn W h => rightNode_c N K hf hN pt pn mt ct cn n hn W h)
  have HW := Lib.hid hw
  obtain ⟨M, hM⟩ : ∃ M, N.length = M := ⟨_, rfl⟩
  rw [hM] at HR hN ⊢
  clear hM hw
  go_enter Tryz.func25, Tryz.ntmps25
  go_wp2_with fail
  have hA := heap_alloc_new w (.cells #[.slice pt mt ct, .slice pn M cn] 26)
  have hgA := World.grownBy_alloc w (.cells #[.slice pt mt ct, .slice pn M cn] 26) none
  generalize (w.alloc (.cells #[.slice pt mt ct, .slice pn M cn] 26)) = W at *
  obtain ⟨b, hb⟩ : ∃ b, w.heap.size = b := ⟨_, rfl⟩
  rw [hb] at hA ⊢
  have HA := Lib.hid hA; have HGA := Lib.hid hgA
  clear hA hgA hb
  go_loopw [7] (fun v wr => ∃ k : Nat, k ≤ M ∧ v = .int .i64 k ∧ Hid (W.grownBy wr none)) (fun v _ => M - (intOf v).toNat)
  case atStart => exact ⟨0, Nat.zero_le _, rfl, Lib.hid (gb_refl _ _)⟩
  case round =>
    obtain ⟨k, hk, rfl, HG⟩ := hrel
    by_cases hlt : k < M
    · have d1 : decide ((k : Int) < (M : Int)) = true := decide_eq_true (by omega)
      have d1' : decide (k < M) = true := decide_eq_true hlt
      obtain ⟨a0, a1⟩ := cells_tree (bx HG.out HA.out)
      go_wp2_with fail
      refine (HR.out k hlt wr (HW.out.kept (gb_trans HGA.out HG.out))).mono ?_
      rintro e w2 ⟨rfl, hg2⟩
      have HG2 := Lib.hid (gb_trans HG.out hg2)
      clear hg2 HG a0 a1
      go_wp2_with fail
      go_roundw
      case rel => exact ⟨k + 1, by omega, by go_num, HG2⟩
      case measure => (simp [intOf] <;> omega)
    · obtain rfl : k = M := by omega
      go_wp2_with fail
      go_ret
      exact ⟨rfl, gb_trans HGA.out HG.out⟩
end Go.Proofs.YthclkbaankjbiaaGreatDoor
namespace Go.Proofs.YthclkbaankjbiaaGreatDoor
open Go.RowKit

/-- A block of M values, f 0 .., that may be written. -/
def BlkV (w : World) (g M : Nat) (f : Nat → Value) : Prop :=
  ∃ cur T, w.heap[g]? = some (.cells cur T (0, 0)) ∧ cur.size = M ∧ ∀ j, j < M → cur[j]? = some (f j)

section
variable {w w' : World} {g M : Nat} {f : Nat → Value}
theorem BlkV.lt (h : BlkV w g M f) : g < w.heap.size := by
  obtain ⟨cur, T, hg, _⟩ := h
  exact (Array.getElem?_eq_some_iff.1 hg).1
theorem BlkV.cell (h : BlkV w g M f) {j : Nat} (hj : j < M) : w.cell? ⟨g, j, none⟩ = some (f j) := by
  obtain ⟨cur, T, hg, _, hc⟩ := h
  rw [cell_of_row w g j cur T (0, 0) hg]; exact hc j hj
theorem BlkV.free (h : BlkV w g M f) (j : Nat) : w.frozen? ⟨g, j, none⟩ = false := by
  obtain ⟨cur, T, hg, _, hc⟩ := h
  simp [World.frozen?, hg]
theorem BlkV.set (h : BlkV w g M f) (f' : Nat → Value) {j : Nat} (u : Value) (hu : f' j = u) (he : ∀ i, i ≠ j → f' i = f i) : BlkV (w.setCell ⟨g, j, none⟩ u) g M f' := by
  obtain ⟨cur, T, hg, hs, hc⟩ := h
  refine ⟨cur.setIfInBounds j u, T, ?_, by simpa using hs, fun i hi => ?_⟩
  · simp only [World.setCell, Array.getElem?_modify, hg, if_true, Option.map_some]; rfl
  · rw [Array.getElem?_setIfInBounds]
    by_cases e : j = i
    · subst e; simp [hs, hi, hu]
    · rw [if_neg e, hc i hi, he i (Ne.symm e)]
theorem BlkV.kept {row : Option Nat} (h : BlkV w g M f) (hg : w.grownBy w' row) (hne : some g ≠ row) : BlkV w' g M f := by
  obtain ⟨cur, T, hh, r⟩ := h
  exact ⟨cur, T, by rw [hg.block g (Array.getElem?_eq_some_iff.1 hh).1 hne]; exact hh, r⟩
theorem BlkV.congr {f' : Nat → Value} (h : BlkV w g M f) (e : ∀ j, j < M → f j = f' j) : BlkV w g M f' := by
  obtain ⟨cur, T, h1, h2, h3⟩ := h
  exact ⟨cur, T, h1, h2, fun j hj => by rw [← e j hj]; exact h3 j hj⟩
end

theorem infoB : (Tryz.prog.info? 4).map (fun i => (i.zero, i.size, i.bytes)) = some (some (.bool false), 1, 1) := by kernel_rfl
theorem makeB_run (n : Nat) (hn : n ≤ 1099511627776) (w : World) : (Instr.makeSlice 89 (.int .i64 (n : Int)) (.int .i64 (n : Int))).run Tryz.prog w = .ok (.slice (some ⟨w.heap.size, 0, none⟩) n n) (w.alloc (.cells (madeCells #[.bool false] n) 4)) :=
  run_make_row' 89 4 (.bool false) 1 Tryz.underlying89 infoB rfl .i64 .i64 n (by omega) (by omega) w
theorem BlkB_made (w : World) (n : Nat) (T : TypeId) : BlkV (w.alloc (.cells (madeCells #[.bool false] n) T)) w.heap.size n (fun _ => .bool false) := by
  refine ⟨_, T, heap_alloc_new w _, size_madeCells _ _, fun j hj => ?_⟩
  rw [← Array.getElem?_toList, toList_madeCells_one]
  simp [hj]

def memV (P : List Int) (j : Nat) : Value := .bool (decide ((j : Int) ∈ P))

set_option maxRecDepth 100000 in
set_option maxHeartbeats 4000000 in
theorem IndexB_c (g n c : Nat) (w : World) (hn : n ≤ 1000000) (h : ∀ j, j < n → w.cell? ⟨g, j, none⟩ = some (.bool true)) :
    Calls Tryz.prog 86 #[.slice (some ⟨g, 0, none⟩) n c, .bool false] w (ValPost (.int .i64 (-1)) w) := by
  have HH := Lib.hid h
  clear h
  go_enter Tryz.func86, Tryz.ntmps86
  go_wp2_with fail
  go_loopw [8] (fun v wr => ∃ k : Nat, k ≤ n ∧ v = .int .i64 k ∧ wr = w) (fun v _ => n - (intOf v).toNat)
  case atStart => exact ⟨0, Nat.zero_le _, rfl, rfl⟩
  case round =>
    obtain ⟨k, hk, rfl, rfl⟩ := hrel
    by_cases hlt : k < n
    · have d1 : decide ((k : Int) < (n : Int)) = true := decide_eq_true (by omega)
      have d1' : decide (k < n) = true := decide_eq_true hlt
      have c0 := HH.out k hlt
      go_wp2_with fail
      go_roundw
      case rel => exact ⟨k + 1, by omega, by go_num, by first | rfl | trivial⟩
      case measure => (simp [intOf] <;> omega)
    · obtain rfl : k = n := by omega
      go_wp2_with fail
      go_ret
      exact ⟨rfl, gb_refl _ _⟩

set_option maxRecDepth 100000 in
theorem ContainsB_c (g n c : Nat) (w : World) (hn : n ≤ 1000000) (h : ∀ j, j < n → w.cell? ⟨g, j, none⟩ = some (.bool true)) :
    Calls Tryz.prog 54 #[.slice (some ⟨g, 0, none⟩) n c, .bool false] w (ValPost (.bool false) w) := by
  have HI := Lib.hid (IndexB_c g n c w hn h)
  go_enter Tryz.func54, Tryz.ntmps54
  go_wp2_with fail
  refine HI.out.mono ?_
  rintro e w1 ⟨rfl, hg⟩
  have HG := Lib.hid hg
  clear hg
  go_wp2_with fail
  go_ret
  exact ⟨rfl, HG.out⟩

set_option maxRecDepth 100000 in
theorem Root_c (pt pn : Option Addr) (mt ct M cn : Nat) (hM : 0 < M) (hM2 : M ≤ 1000000) (w : World) :
    Calls Tryz.prog 15 #[.agg #[.slice pt mt ct, .slice pn M cn]] w (ValPost (.int .i64 ((M - 1 : Nat) : Int)) w) := by
  have hw1 : IntKind.i64.wrap ((M : Int) - 1) = ((M - 1 : Nat) : Int) := by rw [IntWalk.i64_in _ (by omega)]; omega
  go_enter Tryz.func15, Tryz.ntmps15
  go_wp2_with fail
  go_ret
  exact ⟨rfl, World.grownBy_alloc w _ none⟩

set_option maxRecDepth 100000 in
set_option maxHeartbeats 8000000 in
theorem eachKidOnce_c {m : Nat} (N : List Nd) (K : Nat → Option Addr × Nat) (hf : Forms m N) (hN : N.length ≤ 10000) (pt pn : Option Addr) (mt ct cn : Nat) (w : World) (hw : NodesAt w pn N K) :
    Calls Tryz.prog 26 #[.agg #[.slice pt mt ct, .slice pn N.length cn]] w (ValPost (.bool true) w) := by
  have hmk := fun w => makeB_run N.length (by omega) w
  have hpos : 0 < N.length := List.length_pos_iff.2 hf.1
  have HLEN := Lib.hid (fun (i : Nat) (x : Nd) (hx : N[i]? = some x) => (by
    have h1 := sz_le hf (List.getElem?_eq_some_iff.1 hx).1
    have h2 := kids_len hf hx
    have h3 := (List.getElem?_eq_some_iff.1 hx).1
    omega : x.kids.length ≤ 10000))
  have HNEW := Lib.hid (fun P R k h => kid_new hf (P := P) (R := R) (k := k) h)
  have HEACH := Lib.hid (fun j h => kid_each hf (j := j) h)
  obtain ⟨M, hM⟩ : ∃ M, N.length = M := ⟨_, rfl⟩
  have HM := Lib.hid hM
  have HW := Lib.hid hw
  rw [hM] at hmk hN hpos HNEW HEACH ⊢
  have HRC := Lib.hid (fun W => Root_c pt pn mt ct M cn hpos (by omega) W)
  clear hM hw
  go_enter Tryz.func26, Tryz.ntmps26
  go_wp2_with fail
  have HA := Lib.hid (heap_alloc_new w (.cells #[.slice pt mt ct, .slice pn M cn] 26))
  have hgA := World.grownBy_alloc w (.cells #[.slice pt mt ct, .slice pn M cn] 26) none
  have hsA : (w.alloc (.cells #[.slice pt mt ct, .slice pn M cn] 26)).heap.size = w.heap.size + 1 := by simp
  generalize (w.alloc (.cells #[.slice pt mt ct, .slice pn M cn] 26)) = WA at *
  have hB := BlkB_made WA M 4
  have hgB := World.grownBy_alloc WA (.cells (madeCells #[.bool false] M) 4) none
  rw [hsA] at hB
  generalize (WA.alloc (.cells (madeCells #[.bool false] M) 4)) = W at *
  have HBA := Lib.hid (bx hgB HA.out)
  have HTB := Lib.hid hB
  have HG0 := Lib.hid (gb_trans hgA hgB)
  have hsz0 : w.heap.size + 1 < W.heap.size := hB.lt
  clear HA hgA hsA hB hgB hmk
  obtain ⟨b, hb⟩ : ∃ b, w.heap.size = b := ⟨_, rfl⟩
  have HBW := Lib.hid hb
  rw [hb] at HBA HTB hsz0 ⊢
  clear hb
  obtain ⟨b1, hb1⟩ : ∃ x, b + 1 = x := ⟨_, rfl⟩
  rw [hb1] at HTB hsz0 ⊢
  have hb01 : b < b1 := by omega
  clear hb1
  go_loopw [15] (fun v wr => ∃ i : Nat, i ≤ M ∧ v = .int .i64 i ∧ Hid (BlkV wr b1 M (memV (allKids (N.take i)))) ∧ Hid (W.grownBy wr (some b1))) (fun v _ => M - (intOf v).toNat)
  case atStart => exact ⟨0, Nat.zero_le _, rfl, Lib.hid (HTB.out.congr fun j _ => by simp [memV, allKids]), Lib.hid (gb_refl _ _)⟩
  case round =>
    clear HTB
    obtain ⟨i, hi, rfl, HB, HG⟩ := hrel
    have HGW := Lib.hid (Fr2.after HG0.out (Fr2.of (S := fun k => k = b1) HG.out (fun k e => by injection e with e; exact e.symm)) (fun k e => by rw [HBW.out]; omega))
    obtain ⟨a0, a1, a2⟩ := cells2 ((HG.out.block b (by omega) (by simp; omega)).trans HBA.out)
    by_cases hlt : i < M
    · have d1 : decide ((i : Int) < (M : Int)) = true := decide_eq_true (by omega)
      have d1' : decide (i < M) = true := decide_eq_true hlt
      obtain ⟨x, hx⟩ : ∃ x, N[i]? = some x := ⟨N[i]'(by rw [HM.out]; exact hlt), List.getElem?_eq_getElem _⟩
      obtain ⟨g, off, rfl, hgl, c0, c1, c2⟩ := node_at HW.out hx
      have HKA := Lib.hid (HW.out.2 i x hx)
      have c0 := HGW.out.cell c0 (by simp)
      have c1 := HGW.out.cell c1 (by simp)
      have c2 := HGW.out.cell c2 (by simp)
      have hkl1 := HLEN.out i x hx
      have HSP := Lib.hid (kids_split hx)
      have HDN := Lib.hid (kids_done hx)
      obtain ⟨xk, hxk⟩ : ∃ xk, x.kind = xk := ⟨_, rfl⟩
      obtain ⟨xt, hxt⟩ : ∃ xt, x.tok = xt := ⟨_, rfl⟩
      obtain ⟨L, hLL⟩ : ∃ L, x.kids = L := ⟨_, rfl⟩
      rw [hLL] at HKA hkl1 c2 HSP HDN
      obtain ⟨kl, hkl⟩ : ∃ kl, L.length = kl := ⟨_, rfl⟩
      have HKL := Lib.hid hkl
      rw [hxk] at c0
      rw [hxt] at c1
      rw [hkl] at c2 hkl1 HSP
      clear hx hxk hxt hkl hLL
      generalize K i = kn at *
      obtain ⟨q, kc⟩ := kn
      simp only at c2 HKA
      have hX := heap_alloc_new wr (.cells #[.int .i64 xk, .int .i64 xt, .slice q kl kc] 39)
      have hgX := World.grownBy_alloc wr (.cells #[.int .i64 xk, .int .i64 xt, .slice q kl kc] 39) none
      have HB2 := Lib.hid (HB.out.kept hgX (by simp))
      have HG2 := Lib.hid (gb_trans HG.out (World.grownBy_alloc wr (.cells #[.int .i64 xk, .int .i64 xt, .slice q kl kc] 39) (some b1)))
      have HX2 := Lib.hid hX
      have hbw : b1 < wr.heap.size := HB.out.lt
      have hgw : g < wr.heap.size := Nat.lt_of_lt_of_le hgl HGW.out.size
      have HGW2 := Lib.hid (gb_trans HGW.out hgX)
      clear hX hgX HB HG HGW
      go_wp2_with fail
      generalize (wr.alloc (.cells #[.int .i64 xk, .int .i64 xt, .slice q kl kc] 39)) = W2 at *
      obtain ⟨X, hXX⟩ : ∃ X, wr.heap.size = X := ⟨_, rfl⟩
      rw [hXX] at HX2 hbw hgw ⊢
      clear hXX a0 a1 a2 c0 c1 c2
      go_loopw [22] (fun v wr2 => ∃ k : Nat, k ≤ kl ∧ v = .int .i64 k ∧ Hid (BlkV wr2 b1 M (memV (allKids (N.take i) ++ L.take k))) ∧ Hid (W2.grownBy wr2 (some b1))) (fun v _ => kl - (intOf v).toNat)
      case atStart => exact ⟨0, Nat.zero_le _, rfl, Lib.hid (by simpa using HB2.out), Lib.hid (gb_refl _ _)⟩
      case round =>
        clear HB2
        obtain ⟨k, hk, rfl, HB, HG⟩ := hrel
        have HGW := Lib.hid (Fr2.after HGW2.out (Fr2.of (S := fun k => k = b1) HG.out (fun k e => by injection e with e; exact e.symm)) (fun k e => by rw [HBW.out]; omega))
        by_cases hk2 : k < kl
        · have d3 : decide ((k : Int) < (kl : Int)) = true := decide_eq_true (by omega)
          have d3' : decide (k < kl) = true := decide_eq_true hk2
          obtain ⟨y, hy⟩ : ∃ y, L[k]? = some y := ⟨L[k]'(by rw [HKL.out]; exact hk2), List.getElem?_eq_getElem _⟩
          obtain ⟨g2, o2, rfl, hgl2, ck⟩ := kid_at HKA.out hy
          have ck := HGW.out.cell ck (by simp)
          have hsp := HSP.out k (by omega)
          rw [List.drop_eq_getElem_cons (by rw [HKL.out]; exact hk2), (List.getElem?_eq_some_iff.1 hy).2] at hsp
          obtain ⟨hn1, hn2, hn3⟩ := HNEW.out _ _ y hsp
          have HTK : Hid (L.take (k + 1) = L.take k ++ [y]) := Lib.hid (by rw [List.take_add_one, hy]; rfl)
          obtain ⟨yn, rfl⟩ : ∃ yn : Nat, y = (yn : Int) := ⟨y.toNat, by omega⟩
          have hyn : yn < M := by omega
          have d6 : decide ((yn : Int) < (M : Int)) = true := decide_eq_true (by omega)
          have d6' : decide (yn < M) = true := decide_eq_true hyn
          have cb := HB.out.cell (j := yn) hyn
          have fb := HB.out.free yn
          have hmv : memV (allKids (N.take i) ++ L.take k) yn = .bool false := by unfold memV; rw [decide_eq_false hn1]
          rw [hmv] at cb
          have HSET := Lib.hid (HB.out.set (memV (allKids (N.take i) ++ L.take (k + 1))) (j := yn) (.bool true) (by unfold memV; rw [HTK.out]; simp) (fun j hj => by
            have hne : ((j : Int) ≠ (yn : Int)) := by omega
            unfold memV; rw [HTK.out]; simp [hne]))
          have HG3 := Lib.hid (gb_set (j := yn) HG.out (.bool true))
          clear hmv hsp hn1 hy HB HG HGW
          go_wp2_with fail
          go_roundw
          case rel => exact ⟨k + 1, by omega, by go_num, HSET, HG3⟩
          case measure => (simp [intOf] <;> omega)
        · obtain rfl : k = kl := by omega
          rw [List.take_of_length_le (l := L) (i := k) (by rw [HKL.out]; exact Nat.le_refl _), ← HDN.out] at HB
          have HG4 := Lib.hid (gb_trans HG2.out HG.out)
          clear HG
          go_wp2_with fail
          go_roundw
          case rel => exact ⟨i + 1, by omega, by go_num, HB, HG4⟩
          case measure => (simp [intOf] <;> omega)
    · obtain rfl : i = M := by omega
      have hall : allKids (N.take i) = allKids N := by rw [List.take_of_length_le (l := N) (i := i) (by rw [HM.out]; exact Nat.le_refl _)]
      have HCT := Lib.hid (fun W' c (hg : wr.grownBy W' none) => ContainsB_c b1 (i - 1) c W' (by omega) (fun j hj => by
        have h1 := HB.out.cell (j := j) (by omega)
        rw [hall] at h1
        unfold memV at h1
        rw [decide_eq_true (HEACH.out j (by omega))] at h1
        exact hg.cell h1 (by simp)))
      clear hall
      have e3 : decide (((i - 1 : Nat) : Int) ≤ (i : Int)) = true := decide_eq_true (by omega)
      have e3' : decide (i - 1 ≤ i) = true := decide_eq_true (by omega)
      have e4 : (0 : Int) ≤ ((i - 1 : Nat) : Int) := by omega
      obtain ⟨i1, hi1⟩ : ∃ i1, i - 1 = i1 := ⟨_, rfl⟩
      rw [hi1] at HCT e3 e3' e4 HRC
      have hi2 : i1 ≤ i := by omega
      clear hi1
      go_wp2_with fail
      refine (HRC.out _).mono ?_
      rintro e w2 ⟨rfl, hg2⟩
      have HG2 := Lib.hid hg2
      clear hg2
      go_wp2_with fail
      refine (HCT.out _ _ HG2.out).mono ?_
      rintro e w3 ⟨rfl, hg3⟩
      have HG3 := Lib.hid (gb_trans HGW.out (gb_trans HG2.out hg3))
      clear hg3 HG2
      go_wp2_with fail
      go_ret
      exact ⟨rfl, HG3.out⟩
end Go.Proofs.YthclkbaankjbiaaGreatDoor
namespace Go.Proofs.YthclkbaankjbiaaGreatDoor
open Go.RowKit

theorem OwnG.keptF {S : Nat → Prop} {s : Nat} {T : TypeId} {w w' : World} {base : Nat} {v : Value} {l : List (List Value)} (h : OwnG s T w base v l) (hf : Fr2 S w w') (hS : ∀ k, v.ownBlock = some k → ¬ S k) : OwnG s T w' base v l :=
  ⟨⟨h.1.1, h.1.2.imp id fun ⟨g, cap, cur, e, hb, hh, r⟩ => ⟨g, cap, cur, e, hb, hf.keep hh (hS g (by rw [e]; rfl)), r⟩⟩, h.2⟩
theorem OwnG.keptR {row : Option Nat} {s : Nat} {T : TypeId} {w w' : World} {base : Nat} {v : Value} {l : List (List Value)} (h : OwnG s T w base v l) (hf : w.grownBy w' row) (hS : ∀ k, v.ownBlock = some k → row ≠ some k) : OwnG s T w' base v l :=
  h.keptF (Fr2.of (S := fun k => row = some k) hf (fun _ e => e)) hS
theorem OwnG.at {s : Nat} {T : TypeId} {w : World} {base : Nat} {v : Value} {l : List (List Value)} (h : OwnG s T w base v l) : ∀ k, v.ownBlock = some k → base ≤ k ∧ k < w.heap.size := h.1.lt

def Sep (a b : Value) : Prop := ∀ k, a.ownBlock = some k → b.ownBlock ≠ some k
theorem Sep.symm {a b : Value} (h : Sep a b) : Sep b a := fun k h1 h2 => h k h2 h1

section
variable {s : Nat} {t T : TypeId} {z : Value} {by' : Nat}

/-- append of one struct: where the new slice lies. -/
theorem wpList_appGl (hs0 : 0 < s) (ht : Tryz.prog.underlying t = some (.slice T)) (hT : (Tryz.prog.info? T).map (fun i => (i.zero, i.size, i.bytes)) = some (some z, s, by')) (hz : z.cells.size = s) (hby : by' ≤ 1000)
    {W : World} {ops : Array Oper} {rest : List Oper} {o : Oper} {a : Act} {Q : Exit → Act → World → Prop} (hgd : o.guard = none) (os ox : Operand) (ho : o.op = .call { callee := .builtin .append, args := #[os, ox], argTypes := #[t, t] })
    (base : Nat) (l : List (List Value)) (y : List Value) (hys : y.length = s) (hy1 : ∀ u ∈ y, u.oneCell' = true) (v : Value) (hs : a.eval os = v) (hown : OwnG s T W base v l) (H : Nat) (arr : Array Value) (harr : arr = y.toArray) (hblk : W.heap[H]? = some (.cells arr T (0, 0))) (hx : a.eval ox = .slice (some ⟨H, 0, none⟩) 1 1) (hn : l.length ≤ 1000000) (hbase : base ≤ W.heap.size) (H' : Nat) (hH' : W.heap.size = H')
    (K : ∀ g' cap' w', OwnG s T w' base (.slice (some ⟨g', 0, none⟩) (l.length + 1) cap') (l ++ [y]) → W.grownBy w' v.ownBlock → (v.ownBlock = some g' ∨ g' = H') → wpList Tryz.prog ops Q rest (a.put o.dst (.slice (some ⟨g', 0, none⟩) (l.length + 1) cap')) w') :
    wpList Tryz.prog ops Q (o :: rest) a W := by
  subst harr
  obtain ⟨i0, hi, hi0, hi1, hi2⟩ := info_parts hT
  have hb : (l.length + 1) * by' ≤ 140737488355328 := by
    have : (l.length + 1) * by' ≤ (l.length + 1) * 1000 := Nat.mul_le_mul_left _ hby
    omega
  refine wpList_append_lies (P := Tryz.prog) W hgd os ox t ho base T i0 z s by' ht hi hi0 hi1 hi2 hz hs0 v l.length l.flatten hs hown.1 ⟨H, 0, none⟩ 1 1 y hx (by omega) ?_ hy1 (by omega) (by unfold maxLen; omega) hb hbase H' hH' ?_
  · intro j u hj
    rw [Addr.add_lit, cell_of_row _ H _ _ _ (0, 0) hblk]
    rw [Nat.zero_add, List.getElem?_toArray]; exact hj
  · intro g' cap' w' h3 h4 h5 _
    refine K g' cap' w' ⟨by simpa using h3, fun q hq => ?_⟩ h4 h5
    rcases List.mem_append.1 hq with hq | hq
    · exact hown.2 q hq
    · simp at hq; subst hq; exact ⟨hys, hy1⟩

/-- The same at a step of a region that draws its order. -/
theorem step_appGl (hs0 : 0 < s) (ht : Tryz.prog.underlying t = some (.slice T)) (hT : (Tryz.prog.info? T).map (fun i => (i.zero, i.size, i.bytes)) = some (some z, s, by')) (hz : z.cells.size = s) (hby : by' ≤ 1000)
    {W : World} {ops : Array Oper} {o : Oper} {a : Act} {K : Act → World → Prop} {Q : Exit → Act → World → Prop} {E : Prop} (hgd : o.guard = none) (os ox : Operand) (ho : o.op = .call { callee := .builtin .append, args := #[os, ox], argTypes := #[t, t] })
    (base : Nat) (l : List (List Value)) (y : List Value) (hys : y.length = s) (hy1 : ∀ u ∈ y, u.oneCell' = true) (v : Value) (hs : a.eval os = v) (hown : OwnG s T W base v l) (H : Nat) (arr : Array Value) (harr : arr = y.toArray) (hblk : W.heap[H]? = some (.cells arr T (0, 0))) (hx : a.eval ox = .slice (some ⟨H, 0, none⟩) 1 1) (hn : l.length ≤ 1000000) (hbase : base ≤ W.heap.size) (H' : Nat) (hH' : W.heap.size = H')
    (K' : ∀ g' cap' w', OwnG s T w' base (.slice (some ⟨g', 0, none⟩) (l.length + 1) cap') (l ++ [y]) → W.grownBy w' v.ownBlock → (v.ownBlock = some g' ∨ g' = H') → K (a.put o.dst (.slice (some ⟨g', 0, none⟩) (l.length + 1) cap')) w') :
    if Region.wanted o (yielded ops a.tmps) = true then Oper.wp Tryz.prog o a W K Q else E := by
  subst harr
  obtain ⟨i0, hi, hi0, hi1, hi2⟩ := info_parts hT
  have hb : (l.length + 1) * by' ≤ 140737488355328 := by
    have : (l.length + 1) * by' ≤ (l.length + 1) * 1000 := Nat.mul_le_mul_left _ hby
    omega
  refine step_append_lies (P := Tryz.prog) W hgd os ox t ho base T i0 z s by' ht hi hi0 hi1 hi2 hz hs0 v l.length l.flatten hs hown.1 ⟨H, 0, none⟩ 1 1 y hx (by omega) ?_ hy1 (by omega) (by unfold maxLen; omega) hb hbase H' hH' ?_
  · intro j u hj
    rw [Addr.add_lit, cell_of_row _ H _ _ _ (0, 0) hblk]
    rw [Nat.zero_add, List.getElem?_toArray]; exact hj
  · intro g' cap' w' h3 h4 h5 _
    refine K' g' cap' w' ⟨by simpa using h3, fun q hq => ?_⟩ h4 h5
    rcases List.mem_append.1 hq with hq | hq
    · exact hown.2 q hq
    · simp at hq; subst hq; exact ⟨hys, hy1⟩
end

/-- A list of ints of one's own. -/
def OwnL (w : World) (base : Nat) (v : Value) (l : List Int) : Prop := OwnG 1 3 w base v (one (intsV l))

theorem OwnL.parts {w : World} {base : Nat} {v : Value} {l : List Int} (h : OwnL w base v l) : ∃ p c, v = .slice p l.length c ∧ VAt w p (intsV l) ∧ l.length ≤ c ∧ c ≤ maxLen ∧ (l ≠ [] → ∀ a, p = some a → base ≤ a.block) := by
  obtain ⟨p, c, e, h1, h2, h3, h4⟩ := OwnG.is h
  rw [one_len, intsV_len] at e h2
  exact ⟨p, c, e, v_of_g h1, h2, h3, fun hl => h4 (fun h0 => hl (by
    have := congrArg List.length h0
    rw [one_len, intsV_len] at this
    exact List.length_eq_zero_iff.1 this))⟩

/-- What a slice of ints holds. -/
def readInts (w : World) : Value → List Int
  | .slice (some a) n _ => (List.range n).map fun j => intOf ((w.cell? ⟨a.block, a.off + j, none⟩).getD undef)
  | _ => []
theorem readInts_own {w : World} {base : Nat} {v : Value} {l : List Int} (h : OwnL w base v l) : readInts w v = l := by
  obtain ⟨p, c, rfl, hv, -⟩ := h.parts
  cases p with
  | none =>
    rcases hv with h0 | ⟨g, off, e, -⟩
    · have : l = [] := by
        have := congrArg List.length h0; rw [intsV_len] at this; exact List.length_eq_zero_iff.1 this
      subst this; rfl
    · cases e
  | some a =>
    show (List.range l.length).map _ = l
    refine List.ext_getElem? fun i => ?_
    by_cases hi : i < l.length
    · rcases hv with h0 | ⟨g, off, e, -, hc⟩
      · have := congrArg List.length h0; rw [intsV_len] at this; simp at this; subst this; simp at hi
      · cases e
        have h1 := hc i _ (intsV_get (List.getElem?_eq_getElem hi))
        rw [List.getElem?_map, List.getElem?_range hi, List.getElem?_eq_getElem hi]
        simp [h1, intOf]
    · rw [List.getElem?_eq_none (by simp; omega), List.getElem?_eq_none (by omega)]

theorem OwnL.pop {w : World} {base n c : Nat} {p : Option Addr} {l : List Int} {k : Int} (h : OwnL w base (.slice p n c) (l ++ [k])) : n = l.length + 1 ∧ OwnL w base (.slice p l.length c) l ∧ (Value.slice p l.length c).ownBlock = (Value.slice p n c).ownBlock := by
  obtain ⟨p', c', e, -⟩ := h.parts
  injection e with e1 e2 e3
  rw [List.length_append, List.length_singleton] at e2
  subst e2
  have h1 := h.1
  rw [one_len, one_flat, intsV_len, intsV_append] at h1
  rcases h1.2 with ⟨h2, -⟩ | ⟨g, cap, cur, h2, -⟩
  · cases h2
  · injection h2 with h3 h4 h5
    subst h3; subst h5
    have h6 := ownsRow_pop (xs := intsV l) (last := intsV [k]) (by rw [intsV_len, Nat.mul_one]) (by simpa using h1)
    refine ⟨rfl, ⟨?_, one_wid (intsV_one _)⟩, rfl⟩
    rw [one_len, one_flat, intsV_len]
    exact h6
theorem OwnL.nil (w : World) (base : Nat) : OwnL w base (.slice none 0 0) [] := OwnG.nil _ _ _ _
theorem OwnL.new (w : World) (base : Nat) (x : Int) (H : Nat) (hH : w.heap.size = H) (hb : base ≤ H) : OwnL (w.alloc (.cells #[.int .i64 x] 3)) base (.slice (some ⟨H, 0, none⟩) 1 1) [x] := by
  subst hH
  refine ⟨?_, one_wid (intsV_one _)⟩
  rw [one_len, one_flat, intsV_len]
  exact ⟨by simp [intsV], .inr ⟨_, 1, _, rfl, hb, heap_alloc_new w _, by simp, by unfold maxLen; omega, by simp, by simp [intsV]⟩⟩
theorem OwnL.app {w : World} {base : Nat} {v : Value} {l : List Int} {x : Int} (h : OwnG 1 3 w base v (one (intsV l) ++ [[.int .i64 x]])) : OwnL w base v (l ++ [x]) := by
  unfold OwnL; rw [intsV_append, one_append]; exact h
end Go.Proofs.YthclkbaankjbiaaGreatDoor
