/- Each kid once: a block of bools; slices.Contains; eachKidOnce. -/
import Derived.Test.YtdfegmdmappefaaDoorUNode
namespace Go.Proofs.YtdfegmdmappefaaDoor
open Go.RowKit

/-- A block of M values, f 0 .., that may be written. -/
def BlkV (w : World) (g M : Nat) (f : Nat → Value) : Prop :=
  ∃ cur T, w.heap[g]? = some (.cells cur T (0, 0)) ∧ cur.size = M ∧ ∀ j, j < M → cur[j]? = some (f j)

section
variable {w w' : World} {g M : Nat} {f : Nat → Value}
theorem BlkV.lt (h : BlkV w g M f) : g < w.heap.size := by
  obtain ⟨cur, T, hg, _⟩ := h
  exact (Array.getElem?_eq_some_iff.1 hg).1
theorem BlkV.cell (h : BlkV w g M f) {j : Nat} (hj : j < M) : w.cell? ⟨g, j, none⟩ = some (f j) := by
  obtain ⟨cur, T, hg, _, hc⟩ := h
  rw [cell_of_row w g j cur T (0, 0) hg]; exact hc j hj
theorem BlkV.free (h : BlkV w g M f) (j : Nat) : w.frozen? ⟨g, j, none⟩ = false := by
  obtain ⟨cur, T, hg, _, hc⟩ := h
  simp [World.frozen?, hg]
theorem BlkV.set (h : BlkV w g M f) (f' : Nat → Value) {j : Nat} (u : Value) (hu : f' j = u) (he : ∀ i, i ≠ j → f' i = f i) : BlkV (w.setCell ⟨g, j, none⟩ u) g M f' := by
  obtain ⟨cur, T, hg, hs, hc⟩ := h
  refine ⟨cur.setIfInBounds j u, T, ?_, by simpa using hs, fun i hi => ?_⟩
  · simp only [World.setCell, Array.getElem?_modify, hg, if_true, Option.map_some]; rfl
  · rw [Array.getElem?_setIfInBounds]
    by_cases e : j = i
    · subst e; simp [hs, hi, hu]
    · rw [if_neg e, hc i hi, he i (Ne.symm e)]
theorem BlkV.kept {row : Option Nat} (h : BlkV w g M f) (hg : w.grownBy w' row) (hne : some g ≠ row) : BlkV w' g M f := by
  obtain ⟨cur, T, hh, r⟩ := h
  exact ⟨cur, T, by rw [hg.block g (Array.getElem?_eq_some_iff.1 hh).1 hne]; exact hh, r⟩
theorem BlkV.congr {f' : Nat → Value} (h : BlkV w g M f) (e : ∀ j, j < M → f j = f' j) : BlkV w g M f' := by
  obtain ⟨cur, T, h1, h2, h3⟩ := h
  exact ⟨cur, T, h1, h2, fun j hj => by rw [← e j hj]; exact h3 j hj⟩
end

theorem infoB : (Tryd.prog.info? 4).map (fun i => (i.zero, i.size, i.bytes)) = some (some (.bool false), 1, 1) := by kernel_rfl
theorem makeB_run (n : Nat) (hn : n ≤ 1099511627776) (w : World) : (Instr.makeSlice 94 (.int .i64 (n : Int)) (.int .i64 (n : Int))).run Tryd.prog w = .ok (.slice (some ⟨w.heap.size, 0, none⟩) n n) (w.alloc (.cells (madeCells #[.bool false] n) 4)) :=
  run_make_row' 94 4 (.bool false) 1 Tryd.underlying94 infoB rfl .i64 .i64 n (by omega) (by omega) w
theorem BlkB_made (w : World) (n : Nat) (T : TypeId) : BlkV (w.alloc (.cells (madeCells #[.bool false] n) T)) w.heap.size n (fun _ => .bool false) := by
  refine ⟨_, T, heap_alloc_new w _, size_madeCells _ _, fun j hj => ?_⟩
  rw [← Array.getElem?_toList, toList_madeCells_one]
  simp [hj]

def memV (P : List Int) (j : Nat) : Value := .bool (decide ((j : Int) ∈ P))

set_option maxRecDepth 100000 in
set_option maxHeartbeats 4000000 in
theorem IndexB_c (g n c : Nat) (w : World) (hn : n ≤ 1000000) (h : ∀ j, j < n → w.cell? ⟨g, j, none⟩ = some (.bool true)) :
    Calls Tryd.prog 68 #[.slice (some ⟨g, 0, none⟩) n c, .bool false] w (ValPost (.int .i64 (-1)) w) := by
  have HH := Lib.hid h
  clear h
  go_enter Tryd.func68, Tryd.ntmps68
  go_wp2_with fail
  go_loopw [8] (fun v wr => ∃ k : Nat, k ≤ n ∧ v = .int .i64 k ∧ wr = w) (fun v _ => n - (intOf v).toNat)
  case atStart => exact ⟨0, Nat.zero_le _, rfl, rfl⟩
  case round =>
    obtain ⟨k, hk, rfl, rfl⟩ := hrel
    by_cases hlt : k < n
    · have d1 : decide ((k : Int) < (n : Int)) = true := decide_eq_true (by omega)
      have d1' : decide (k < n) = true := decide_eq_true hlt
      have c0 := HH.out k hlt
      go_wp2_with fail
      go_roundw
      case rel => exact ⟨k + 1, by omega, by go_num, by first | rfl | trivial⟩
      case measure => (simp [intOf] <;> omega)
    · obtain rfl : k = n := by omega
      go_wp2_with fail
      go_ret
      exact ⟨rfl, gb_refl _ _⟩

set_option maxRecDepth 100000 in
theorem ContainsB_c (g n c : Nat) (w : World) (hn : n ≤ 1000000) (h : ∀ j, j < n → w.cell? ⟨g, j, none⟩ = some (.bool true)) :
    Calls Tryd.prog 54 #[.slice (some ⟨g, 0, none⟩) n c, .bool false] w (ValPost (.bool false) w) := by
  have HI := Lib.hid (IndexB_c g n c w hn h)
  go_enter Tryd.func54, Tryd.ntmps54
  go_wp2_with fail
  refine HI.out.mono ?_
  rintro e w1 ⟨rfl, hg⟩
  have HG := Lib.hid hg
  clear hg
  go_wp2_with fail
  go_ret
  exact ⟨rfl, HG.out⟩

set_option maxRecDepth 100000 in
theorem Root_c (pt pn : Option Addr) (mt ct M cn : Nat) (hM : 0 < M) (hM2 : M ≤ 1000000) (w : World) :
    Calls Tryd.prog 15 #[.agg #[.slice pt mt ct, .slice pn M cn]] w (ValPost (.int .i64 ((M - 1 : Nat) : Int)) w) := by
  have hw1 : IntKind.i64.wrap ((M : Int) - 1) = ((M - 1 : Nat) : Int) := by rw [IntWalk.i64_in _ (by omega)]; omega
  go_enter Tryd.func15, Tryd.ntmps15
  go_wp2_with fail
  go_ret
  exact ⟨rfl, World.grownBy_alloc w _ none⟩

set_option maxRecDepth 100000 in
set_option maxHeartbeats 8000000 in
theorem eachKidOnce_c {m : Nat} (N : List Nd) (K : Nat → Option Addr × Nat) (hf : Forms m N) (hN : N.length ≤ 1000) (pt pn : Option Addr) (mt ct cn : Nat) (w : World) (hw : NodesAt w pn N K) :
    Calls Tryd.prog 34 #[.agg #[.slice pt mt ct, .slice pn N.length cn]] w (ValPost (.bool true) w) := by
  have hmk := fun w => makeB_run N.length (by omega) w
  have hpos : 0 < N.length := List.length_pos_iff.2 hf.1
  have HLEN := Lib.hid (fun (i : Nat) (x : Nd) (hx : N[i]? = some x) => (by
    have h1 := sz_le hf (List.getElem?_eq_some_iff.1 hx).1
    have h2 := kids_len hf hx
    have h3 := (List.getElem?_eq_some_iff.1 hx).1
    omega : x.kids.length ≤ 1000))
  have HNEW := Lib.hid (fun P R k h => kid_new hf (P := P) (R := R) (k := k) h)
  have HEACH := Lib.hid (fun j h => kid_each hf (j := j) h)
  obtain ⟨M, hM⟩ : ∃ M, N.length = M := ⟨_, rfl⟩
  have HM := Lib.hid hM
  have HW := Lib.hid hw
  rw [hM] at hmk hN hpos HNEW HEACH ⊢
  have HRC := Lib.hid (fun W => Root_c pt pn mt ct M cn hpos (by omega) W)
  clear hM hw
  go_enter Tryd.func34, Tryd.ntmps34
  go_wp2_with fail
  have HA := Lib.hid (heap_alloc_new w (.cells #[.slice pt mt ct, .slice pn M cn] 25))
  have hgA := World.grownBy_alloc w (.cells #[.slice pt mt ct, .slice pn M cn] 25) none
  have hsA : (w.alloc (.cells #[.slice pt mt ct, .slice pn M cn] 25)).heap.size = w.heap.size + 1 := by simp
  generalize (w.alloc (.cells #[.slice pt mt ct, .slice pn M cn] 25)) = WA at *
  have hB := BlkB_made WA M 4
  have hgB := World.grownBy_alloc WA (.cells (madeCells #[.bool false] M) 4) none
  rw [hsA] at hB
  generalize (WA.alloc (.cells (madeCells #[.bool false] M) 4)) = W at *
  have HBA := Lib.hid (bx hgB HA.out)
  have HTB := Lib.hid hB
  have HG0 := Lib.hid (gb_trans hgA hgB)
  have hsz0 : w.heap.size + 1 < W.heap.size := hB.lt
  clear HA hgA hsA hB hgB hmk
  obtain ⟨b, hb⟩ : ∃ b, w.heap.size = b := ⟨_, rfl⟩
  have HBW := Lib.hid hb
  rw [hb] at HBA HTB hsz0 ⊢
  clear hb
  obtain ⟨b1, hb1⟩ : ∃ x, b + 1 = x := ⟨_, rfl⟩
  rw [hb1] at HTB hsz0 ⊢
  have hb01 : b < b1 := by omega
  clear hb1
  go_loopw [15] (fun v wr => ∃ i : Nat, i ≤ M ∧ v = .int .i64 i ∧ Hid (BlkV wr b1 M (memV (allKids (N.take i)))) ∧ Hid (W.grownBy wr (some b1))) (fun v _ => M - (intOf v).toNat)
  case atStart => exact ⟨0, Nat.zero_le _, rfl, Lib.hid (HTB.out.congr fun j _ => by simp [memV, allKids]), Lib.hid (gb_refl _ _)⟩
  case round =>
    clear HTB
    obtain ⟨i, hi, rfl, HB, HG⟩ := hrel
    have HGW := Lib.hid (Fr2.after HG0.out (Fr2.of (S := fun k => k = b1) HG.out (fun k e => by injection e with e; exact e.symm)) (fun k e => by rw [HBW.out]; omega))
    obtain ⟨a0, a1, a2⟩ := cells2 ((HG.out.block b (by omega) (by simp; omega)).trans HBA.out)
    by_cases hlt : i < M
    · have d1 : decide ((i : Int) < (M : Int)) = true := decide_eq_true (by omega)
      have d1' : decide (i < M) = true := decide_eq_true hlt
      obtain ⟨x, hx⟩ : ∃ x, N[i]? = some x := ⟨N[i]'(by rw [HM.out]; exact hlt), List.getElem?_eq_getElem _⟩
      obtain ⟨g, off, rfl, hgl, c0, c1, c2⟩ := node_at HW.out hx
      have HKA := Lib.hid (HW.out.2 i x hx)
      have c0 := HGW.out.cell c0 (by simp)
      have c1 := HGW.out.cell c1 (by simp)
      have c2 := HGW.out.cell c2 (by simp)
      have hkl1 := HLEN.out i x hx
      have HSP := Lib.hid (kids_split hx)
      have HDN := Lib.hid (kids_done hx)
      obtain ⟨xk, hxk⟩ : ∃ xk, x.kind = xk := ⟨_, rfl⟩
      obtain ⟨xt, hxt⟩ : ∃ xt, x.tok = xt := ⟨_, rfl⟩
      obtain ⟨L, hLL⟩ : ∃ L, x.kids = L := ⟨_, rfl⟩
      rw [hLL] at HKA hkl1 c2 HSP HDN
      obtain ⟨kl, hkl⟩ : ∃ kl, L.length = kl := ⟨_, rfl⟩
      have HKL := Lib.hid hkl
      rw [hxk] at c0
      rw [hxt] at c1
      rw [hkl] at c2 hkl1 HSP
      clear hx hxk hxt hkl hLL
      generalize K i = kn at *
      obtain ⟨q, kc⟩ := kn
      simp only at c2 HKA
      have hX := heap_alloc_new wr (.cells #[.int .i64 xk, .int .i64 xt, .slice q kl kc] 56)
      have hgX := World.grownBy_alloc wr (.cells #[.int .i64 xk, .int .i64 xt, .slice q kl kc] 56) none
      have HB2 := Lib.hid (HB.out.kept hgX (by simp))
      have HG2 := Lib.hid (gb_trans HG.out (World.grownBy_alloc wr (.cells #[.int .i64 xk, .int .i64 xt, .slice q kl kc] 56) (some b1)))
      have HX2 := Lib.hid hX
      have hbw : b1 < wr.heap.size := HB.out.lt
      have hgw : g < wr.heap.size := Nat.lt_of_lt_of_le hgl HGW.out.size
      have HGW2 := Lib.hid (gb_trans HGW.out hgX)
      clear hX hgX HB HG HGW
      go_wp2_with fail
      generalize (wr.alloc (.cells #[.int .i64 xk, .int .i64 xt, .slice q kl kc] 56)) = W2 at *
      obtain ⟨X, hXX⟩ : ∃ X, wr.heap.size = X := ⟨_, rfl⟩
      rw [hXX] at HX2 hbw hgw ⊢
      clear hXX a0 a1 a2 c0 c1 c2
      go_loopw [22] (fun v wr2 => ∃ k : Nat, k ≤ kl ∧ v = .int .i64 k ∧ Hid (BlkV wr2 b1 M (memV (allKids (N.take i) ++ L.take k))) ∧ Hid (W2.grownBy wr2 (some b1))) (fun v _ => kl - (intOf v).toNat)
      case atStart => exact ⟨0, Nat.zero_le _, rfl, Lib.hid (by simpa using HB2.out), Lib.hid (gb_refl _ _)⟩
      case round =>
        clear HB2
        obtain ⟨k, hk, rfl, HB, HG⟩ := hrel
        have HGW := Lib.hid (Fr2.after HGW2.out (Fr2.of (S := fun k => k = b1) HG.out (fun k e => by injection e with e; exact e.symm)) (fun k e => by rw [HBW.out]; omega))
        by_cases hk2 : k < kl
        · have d3 : decide ((k : Int) < (kl : Int)) = true := decide_eq_true (by omega)
          have d3' : decide (k < kl) = true := decide_eq_true hk2
          obtain ⟨y, hy⟩ : ∃ y, L[k]? = some y := ⟨L[k]'(by rw [HKL.out]; exact hk2), List.getElem?_eq_getElem _⟩
          obtain ⟨g2, o2, rfl, hgl2, ck⟩ := kid_at HKA.out hy
          have ck := HGW.out.cell ck (by simp)
          have hsp := HSP.out k (by omega)
          rw [List.drop_eq_getElem_cons (by rw [HKL.out]; exact hk2), (List.getElem?_eq_some_iff.1 hy).2] at hsp
          obtain ⟨hn1, hn2, hn3⟩ := HNEW.out _ _ y hsp
          have HTK : Hid (L.take (k + 1) = L.take k ++ [y]) := Lib.hid (by rw [List.take_add_one, hy]; rfl)
          obtain ⟨yn, rfl⟩ : ∃ yn : Nat, y = (yn : Int) := ⟨y.toNat, by omega⟩
          have hyn : yn < M := by omega
          have d6 : decide ((yn : Int) < (M : Int)) = true := decide_eq_true (by omega)
          have d6' : decide (yn < M) = true := decide_eq_true hyn
          have cb := HB.out.cell (j := yn) hyn
          have fb := HB.out.free yn
          have hmv : memV (allKids (N.take i) ++ L.take k) yn = .bool false := by unfold memV; rw [decide_eq_false hn1]
          rw [hmv] at cb
          have HSET := Lib.hid (HB.out.set (memV (allKids (N.take i) ++ L.take (k + 1))) (j := yn) (.bool true) (by unfold memV; rw [HTK.out]; simp) (fun j hj => by
            have hne : ((j : Int) ≠ (yn : Int)) := by omega
            unfold memV; rw [HTK.out]; simp [hne]))
          have HG3 := Lib.hid (gb_set (j := yn) HG.out (.bool true))
          clear hmv hsp hn1 hy HB HG HGW
          go_wp2_with fail
          go_roundw
          case rel => exact ⟨k + 1, by omega, by go_num, HSET, HG3⟩
          case measure => (simp [intOf] <;> omega)
        · obtain rfl : k = kl := by omega
          rw [List.take_of_length_le (l := L) (i := k) (by rw [HKL.out]; exact Nat.le_refl _), ← HDN.out] at HB
          have HG4 := Lib.hid (gb_trans HG2.out HG.out)
          clear HG
          go_wp2_with fail
          go_roundw
          case rel => exact ⟨i + 1, by omega, by go_num, HB, HG4⟩
          case measure => (simp [intOf] <;> omega)
    · obtain rfl : i = M := by omega
      have hall : allKids (N.take i) = allKids N := by rw [List.take_of_length_le (l := N) (i := i) (by rw [HM.out]; exact Nat.le_refl _)]
      have HCT := Lib.hid (fun W' c (hg : wr.grownBy W' none) => ContainsB_c b1 (i - 1) c W' (by omega) (fun j hj => by
        have h1 := HB.out.cell (j := j) (by omega)
        rw [hall] at h1
        unfold memV at h1
        rw [decide_eq_true (HEACH.out j (by omega))] at h1
        exact hg.cell h1 (by simp)))
      clear hall
      have e3 : decide (((i - 1 : Nat) : Int) ≤ (i : Int)) = true := decide_eq_true (by omega)
      have e3' : decide (i - 1 ≤ i) = true := decide_eq_true (by omega)
      have e4 : (0 : Int) ≤ ((i - 1 : Nat) : Int) := by omega
      obtain ⟨i1, hi1⟩ : ∃ i1, i - 1 = i1 := ⟨_, rfl⟩
      rw [hi1] at HCT e3 e3' e4 HRC
      have hi2 : i1 ≤ i := by omega
      clear hi1
      go_wp2_with fail
      refine (HRC.out _).mono ?_
      rintro e w2 ⟨rfl, hg2⟩
      have HG2 := Lib.hid hg2
      clear hg2
      go_wp2_with fail
      refine (HCT.out _ _ HG2.out).mono ?_
      rintro e w3 ⟨rfl, hg3⟩
      have HG3 := Lib.hid (gb_trans HGW.out (gb_trans HG2.out hg3))
      clear hg3 HG2
      go_wp2_with fail
      go_ret
      exact ⟨rfl, HG3.out⟩
end Go.Proofs.YtdfegmdmappefaaDoor
