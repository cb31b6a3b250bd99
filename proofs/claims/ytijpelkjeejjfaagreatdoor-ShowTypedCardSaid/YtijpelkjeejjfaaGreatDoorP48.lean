/- Lemmas. -/
import Derived.Test.YtijpelkjeejjfaaGreatDoorP47
set_option linter.unusedVariables false
set_option linter.unusedSimpArgs false
namespace Go.Proofs.YtijpelkjeejjfaaGreatDoor
open Go.RowKit

/-- What is told of a kid: its text, and it in parentheses. -/
def KidT (w : World) (x : Sx) (q : List Value) : Prop := (∃ v0 v1 v2 v3 v4 v5 v6, q = [v0, v1, v2, v3, v4, v5, v6]) ∧ (txS x).length ≤ 1000000000 ∧ (∀ W, w.grownBy W none → Calls Tryz.prog 7 #[.agg q.toArray] W (StrX (txS x) W)) ∧ ∀ (l : Int) W, 0 ≤ l → w.grownBy W none → Calls Tryz.prog 17 #[.agg q.toArray, .int .i64 l] W (StrX (wrapS x l.toNat) W)
theorem kt_of {F : Nat → Prop} {w : World} {x : Sx} {q : List Value} (hx : RSt F w x q) (hf : fitS x) (hb : (txS x).length ≤ 1000000000) (HT : ∀ W, RSt F W x q → Calls Tryz.prog 7 #[.agg q.toArray] W (StrX (txS x) W)) : KidT w x q := by
  have h1 : ∀ W, w.grownBy W none → Calls Tryz.prog 7 #[.agg q.toArray] W (StrX (txS x) W) := fun W hg => HT W (hx.kept hg)
  cases x with
  | mk op nm md nu ys ks ps =>
    simp only [RSt] at hx
    obtain ⟨pk, ck, rows, rfl, -⟩ := hx
    simp only [fitS] at hf
    refine ⟨⟨_, _, _, _, _, _, _, rfl⟩, hb, h1, fun l W hl hg => ?_⟩
    obtain ⟨n, rfl⟩ : ∃ n : Nat, l = n := ⟨l.toNat, by omega⟩
    exact rkid_c op _ _ _ ys pk ks.length ck ps n (txS (.mk op nm md nu ys ks ps)) W hf.1.1 hf.1.2.1 hb (fun W2 hg2 => h1 W2 (gb_trans hg hg2))
theorem one_of {α : Type} {l : List α} (h : l.length = 1) : ∃ a, l = [a] := by
  match l, h with
  | [a], _ => exact ⟨a, rfl⟩
theorem two_of {α : Type} {l : List α} (h : l.length = 2) : ∃ a b, l = [a, b] := by
  match l, h with
  | [a, b], _ => exact ⟨a, b, rfl⟩
theorem three_of {α : Type} {l : List α} (h : l.length = 3) : ∃ a b c, l = [a, b, c] := by
  match l, h with
  | [a, b, c], _ => exact ⟨a, b, c, rfl⟩
theorem text_call {op : Int} (h : op = 24) (nm md : List UInt8) (nu : Int) (ys : Bool) (ks : List Sx) (ps : Int) : txS (.mk op nm md nu ys ks ps) = (if md = [] then [] else md ++ [46]) ++ nm ++ [40] ++ joinT ((txSs ks).map (·.2)) ++ [41] := by subst h; rfl
theorem text_two {op : Int} (h7 : 7 ≤ op) (h20 : op ≤ 20) (nm md : List UInt8) (nu : Int) (ys : Bool) (x y : Sx) (ps : Int) : txS (.mk op nm md nu ys [x, y] ps) = wrapS x (sideA (levS op)) ++ ([32] ++ signS op ++ [32]) ++ wrapS y (sideB (levS op)) := by
  simp only [txS, nodeT]
  rw [if_neg (by omega), if_neg (by omega), if_neg (by omega), if_neg (by omega), if_neg (by omega), if_neg (by omega), if_neg (by omega), if_neg (by omega), if_neg (by omega), if_neg (by omega)]
  rfl
def StrB (s : ByteArray) (w : World) (e : Ending) (w' : World) : Prop := e = .returned (.string s) ∧ w.grownBy w' none
set_option maxRecDepth 100000 in
set_option maxHeartbeats 16000000 in
theorem rt1 (sn sm su : ByteArray) (ys : Bool) (pk : Option Addr) (kl ck : Nat) (ps : Int) (w : World) :
    Calls Tryz.prog 7 #[.agg #[.int .i64 1, .string sn, .string sm, .string su, .bool ys, .slice pk kl ck, .int .i64 ps]] w (StrB su w) := by
  go_enter Tryz.func7, Tryz.ntmps7
  go_upto_region 1 with fail
  have hgA := World.grownBy_alloc w (.cells #[.int .i64 1, .string sn, .string sm, .string su, .bool ys, .slice pk kl ck, .int .i64 ps] 34) none
  have hbA := heap_alloc_new w (.cells #[.int .i64 1, .string sn, .string sm, .string su, .bool ys, .slice pk kl ck, .int .i64 ps] 34)
  generalize (w.alloc (.cells #[.int .i64 1, .string sn, .string sm, .string su, .bool ys, .slice pk kl ck, .int .i64 ps] 34)) = WA at *
  obtain ⟨b, hb⟩ : ∃ b, w.heap.size = b := ⟨_, rfl⟩
  rw [hb] at hbA ⊢
  have HGA := Lib.hid hgA; have HBA := Lib.hid hbA
  clear hgA hbA hb
  obtain ⟨c0, c1, c2, c3, c4, c5, c6, hbw⟩ := cells7x HBA.out
  go_wp2_with fail
  go_ret
  exact ⟨rfl, HGA.out⟩
set_option maxRecDepth 100000 in
set_option maxHeartbeats 16000000 in
theorem rt2t (sn sm su : ByteArray) (pk : Option Addr) (kl ck : Nat) (ps : Int) (w : World) :
    Calls Tryz.prog 7 #[.agg #[.int .i64 2, .string sn, .string sm, .string su, .bool true, .slice pk kl ck, .int .i64 ps]] w (StrB ⟨#[116, 114, 117, 101]⟩ w) := by
  go_enter Tryz.func7, Tryz.ntmps7
  go_upto_region 1 with fail
  have hgA := World.grownBy_alloc w (.cells #[.int .i64 2, .string sn, .string sm, .string su, .bool true, .slice pk kl ck, .int .i64 ps] 34) none
  have hbA := heap_alloc_new w (.cells #[.int .i64 2, .string sn, .string sm, .string su, .bool true, .slice pk kl ck, .int .i64 ps] 34)
  generalize (w.alloc (.cells #[.int .i64 2, .string sn, .string sm, .string su, .bool true, .slice pk kl ck, .int .i64 ps] 34)) = WA at *
  obtain ⟨b, hb⟩ : ∃ b, w.heap.size = b := ⟨_, rfl⟩
  rw [hb] at hbA ⊢
  have HGA := Lib.hid hgA; have HBA := Lib.hid hbA
  clear hgA hbA hb
  obtain ⟨c0, c1, c2, c3, c4, c5, c6, hbw⟩ := cells7x HBA.out
  go_wp2_with fail
  go_ret
  exact ⟨rfl, HGA.out⟩
set_option maxRecDepth 100000 in
set_option maxHeartbeats 16000000 in
theorem rt2f (sn sm su : ByteArray) (pk : Option Addr) (kl ck : Nat) (ps : Int) (w : World) :
    Calls Tryz.prog 7 #[.agg #[.int .i64 2, .string sn, .string sm, .string su, .bool false, .slice pk kl ck, .int .i64 ps]] w (StrB ⟨#[102, 97, 108, 115, 101]⟩ w) := by
  go_enter Tryz.func7, Tryz.ntmps7
  go_upto_region 1 with fail
  have hgA := World.grownBy_alloc w (.cells #[.int .i64 2, .string sn, .string sm, .string su, .bool false, .slice pk kl ck, .int .i64 ps] 34) none
  have hbA := heap_alloc_new w (.cells #[.int .i64 2, .string sn, .string sm, .string su, .bool false, .slice pk kl ck, .int .i64 ps] 34)
  generalize (w.alloc (.cells #[.int .i64 2, .string sn, .string sm, .string su, .bool false, .slice pk kl ck, .int .i64 ps] 34)) = WA at *
  obtain ⟨b, hb⟩ : ∃ b, w.heap.size = b := ⟨_, rfl⟩
  rw [hb] at hbA ⊢
  have HGA := Lib.hid hgA; have HBA := Lib.hid hbA
  clear hgA hbA hb
  obtain ⟨c0, c1, c2, c3, c4, c5, c6, hbw⟩ := cells7x HBA.out
  go_wp2_with fail
  go_ret
  exact ⟨rfl, HGA.out⟩
set_option maxRecDepth 100000 in
set_option maxHeartbeats 16000000 in
theorem rt3 (sn sm su : ByteArray) (ys : Bool) (pk : Option Addr) (kl ck : Nat) (ps : Int) (w : World) :
    Calls Tryz.prog 7 #[.agg #[.int .i64 3, .string sn, .string sm, .string su, .bool ys, .slice pk kl ck, .int .i64 ps]] w (StrB sn w) := by
  go_enter Tryz.func7, Tryz.ntmps7
  go_upto_region 1 with fail
  have hgA := World.grownBy_alloc w (.cells #[.int .i64 3, .string sn, .string sm, .string su, .bool ys, .slice pk kl ck, .int .i64 ps] 34) none
  have hbA := heap_alloc_new w (.cells #[.int .i64 3, .string sn, .string sm, .string su, .bool ys, .slice pk kl ck, .int .i64 ps] 34)
  generalize (w.alloc (.cells #[.int .i64 3, .string sn, .string sm, .string su, .bool ys, .slice pk kl ck, .int .i64 ps] 34)) = WA at *
  obtain ⟨b, hb⟩ : ∃ b, w.heap.size = b := ⟨_, rfl⟩
  rw [hb] at hbA ⊢
  have HGA := Lib.hid hgA; have HBA := Lib.hid hbA
  clear hgA hbA hb
  obtain ⟨c0, c1, c2, c3, c4, c5, c6, hbw⟩ := cells7x HBA.out
  go_wp2_with fail
  go_ret
  exact ⟨rfl, HGA.out⟩
set_option maxRecDepth 100000 in
set_option maxHeartbeats 16000000 in
theorem rt4 (sn sm su : ByteArray) (ys : Bool) (pk : Option Addr) (kl ck : Nat) (ps : Int) (w : World) :
    Calls Tryz.prog 7 #[.agg #[.int .i64 4, .string sn, .string sm, .string su, .bool ys, .slice pk kl ck, .int .i64 ps]] w (StrB ⟨#[114, 101, 115]⟩ w) := by
  go_enter Tryz.func7, Tryz.ntmps7
  go_upto_region 1 with fail
  have hgA := World.grownBy_alloc w (.cells #[.int .i64 4, .string sn, .string sm, .string su, .bool ys, .slice pk kl ck, .int .i64 ps] 34) none
  have hbA := heap_alloc_new w (.cells #[.int .i64 4, .string sn, .string sm, .string su, .bool ys, .slice pk kl ck, .int .i64 ps] 34)
  generalize (w.alloc (.cells #[.int .i64 4, .string sn, .string sm, .string su, .bool ys, .slice pk kl ck, .int .i64 ps] 34)) = WA at *
  obtain ⟨b, hb⟩ : ∃ b, w.heap.size = b := ⟨_, rfl⟩
  rw [hb] at hbA ⊢
  have HGA := Lib.hid hgA; have HBA := Lib.hid hbA
  clear hgA hbA hb
  obtain ⟨c0, c1, c2, c3, c4, c5, c6, hbw⟩ := cells7x HBA.out
  go_wp2_with fail
  go_ret
  exact ⟨rfl, HGA.out⟩
set_option maxRecDepth 100000 in
set_option maxHeartbeats 16000000 in
theorem rt5 (sn sm su : ByteArray) (ys : Bool) (g off ck : Nat) (ps : Int) (a0 a1 a2 a3 a4 a5 a6 : Value) (wA : Nat → List UInt8) (w : World)
    (hgw : g < w.heap.size) (hc : ∀ i v, [a0, a1, a2, a3, a4, a5, a6][i]? = some v → w.cell? ⟨g, off + i, none⟩ = some v)
    (HA : ∀ (l : Int) W, 0 ≤ l → w.grownBy W none → Calls Tryz.prog 17 #[.agg #[a0, a1, a2, a3, a4, a5, a6], .int .i64 l] W (StrX (wA l.toNat) W)) (hA : (wA 9).length ≤ 1000000010) :
    Calls Tryz.prog 7 #[.agg #[.int .i64 5, .string sn, .string sm, .string su, .bool ys, .slice (some ⟨g, off, none⟩) 1 ck, .int .i64 ps]] w (StrX ([45] ++ wA 9) w) := by
  obtain ⟨T, hT⟩ : ∃ T, wA 9 = T := ⟨_, rfl⟩
  have HCA : Hid (∀ W, w.grownBy W none → Calls Tryz.prog 17 #[.agg #[a0, a1, a2, a3, a4, a5, a6], .int .i64 9] W (StrX T W)) := Lib.hid (fun W h => by rw [← hT]; exact HA 9 W (by omega) h)
  rw [hT] at hA ⊢
  have HTL := Lib.hid hA; have HC := Lib.hid hc; have HGW := Lib.hid hgw
  clear HA hA hc hT hgw
  obtain ⟨R, hR⟩ : ∃ R, [45] ++ T = R := ⟨_, rfl⟩
  rw [hR]
  have HRR := Lib.hid hR
  clear hR
  go_enter Tryz.func7, Tryz.ntmps7
  go_upto_region 1 with fail
  have hgA := World.grownBy_alloc w (.cells #[.int .i64 5, .string sn, .string sm, .string su, .bool ys, .slice (some ⟨g, off, none⟩) 1 ck, .int .i64 ps] 34) none
  have hbA := heap_alloc_new w (.cells #[.int .i64 5, .string sn, .string sm, .string su, .bool ys, .slice (some ⟨g, off, none⟩) 1 ck, .int .i64 ps] 34)
  generalize (w.alloc (.cells #[.int .i64 5, .string sn, .string sm, .string su, .bool ys, .slice (some ⟨g, off, none⟩) 1 ck, .int .i64 ps] 34)) = WA at *
  obtain ⟨b, hb⟩ : ∃ b, w.heap.size = b := ⟨_, rfl⟩
  rw [hb] at hbA ⊢
  have HGA := Lib.hid hgA; have HBA := Lib.hid hbA
  clear hgA hbA hb
  obtain ⟨c0, c1, c2, c3, c4, c5, c6, hbw⟩ := cells7x HBA.out
  have d0 := HGA.out.cell (HC.out 0 _ rfl) (by simp)
  have d1 := HGA.out.cell (HC.out 1 _ rfl) (by simp)
  have d2 := HGA.out.cell (HC.out 2 _ rfl) (by simp)
  have d3 := HGA.out.cell (HC.out 3 _ rfl) (by simp)
  have d4 := HGA.out.cell (HC.out 4 _ rfl) (by simp)
  have d5 := HGA.out.cell (HC.out 5 _ rfl) (by simp)
  have d6 := HGA.out.cell (HC.out 6 _ rfl) (by simp)
  rw [Nat.add_zero] at d0
  have hgw := Nat.lt_of_lt_of_le HGW.out HGA.out.size
  have z1 : ¬ 9223372036854775807 < 1 + T.length := by have := HTL.out; omega
  have z2 : ¬ 9223372036854775807 < T.length + 1 := by have := HTL.out; omega
  go_wp2_with fail
  refine (HCA.out WA HGA.out).mono ?_
  rintro e w2 ⟨rfl, hg2⟩
  have HG2 := Lib.hid (gb_trans HGA.out hg2)
  clear hg2
  go_wp2_with fail
  go_ret
  exact ⟨by rw [← HRR.out, ba_cat]; rfl, HG2.out⟩
set_option maxRecDepth 100000 in
set_option maxHeartbeats 16000000 in
theorem rt6 (sn sm su : ByteArray) (ys : Bool) (g off ck : Nat) (ps : Int) (a0 a1 a2 a3 a4 a5 a6 : Value) (wA : Nat → List UInt8) (w : World)
    (hgw : g < w.heap.size) (hc : ∀ i v, [a0, a1, a2, a3, a4, a5, a6][i]? = some v → w.cell? ⟨g, off + i, none⟩ = some v)
    (HA : ∀ (l : Int) W, 0 ≤ l → w.grownBy W none → Calls Tryz.prog 17 #[.agg #[a0, a1, a2, a3, a4, a5, a6], .int .i64 l] W (StrX (wA l.toNat) W)) (hA : (wA 4).length ≤ 1000000010) :
    Calls Tryz.prog 7 #[.agg #[.int .i64 6, .string sn, .string sm, .string su, .bool ys, .slice (some ⟨g, off, none⟩) 1 ck, .int .i64 ps]] w (StrX ([110, 111, 116, 32] ++ wA 4) w) := by
  obtain ⟨T, hT⟩ : ∃ T, wA 4 = T := ⟨_, rfl⟩
  have HCA : Hid (∀ W, w.grownBy W none → Calls Tryz.prog 17 #[.agg #[a0, a1, a2, a3, a4, a5, a6], .int .i64 4] W (StrX T W)) := Lib.hid (fun W h => by rw [← hT]; exact HA 4 W (by omega) h)
  rw [hT] at hA ⊢
  have HTL := Lib.hid hA; have HC := Lib.hid hc; have HGW := Lib.hid hgw
  clear HA hA hc hT hgw
  obtain ⟨R, hR⟩ : ∃ R, [110, 111, 116, 32] ++ T = R := ⟨_, rfl⟩
  rw [hR]
  have HRR := Lib.hid hR
  clear hR
  go_enter Tryz.func7, Tryz.ntmps7
  go_upto_region 1 with fail
  have hgA := World.grownBy_alloc w (.cells #[.int .i64 6, .string sn, .string sm, .string su, .bool ys, .slice (some ⟨g, off, none⟩) 1 ck, .int .i64 ps] 34) none
  have hbA := heap_alloc_new w (.cells #[.int .i64 6, .string sn, .string sm, .string su, .bool ys, .slice (some ⟨g, off, none⟩) 1 ck, .int .i64 ps] 34)
  generalize (w.alloc (.cells #[.int .i64 6, .string sn, .string sm, .string su, .bool ys, .slice (some ⟨g, off, none⟩) 1 ck, .int .i64 ps] 34)) = WA at *
  obtain ⟨b, hb⟩ : ∃ b, w.heap.size = b := ⟨_, rfl⟩
  rw [hb] at hbA ⊢
  have HGA := Lib.hid hgA; have HBA := Lib.hid hbA
  clear hgA hbA hb
  obtain ⟨c0, c1, c2, c3, c4, c5, c6, hbw⟩ := cells7x HBA.out
  have d0 := HGA.out.cell (HC.out 0 _ rfl) (by simp)
  have d1 := HGA.out.cell (HC.out 1 _ rfl) (by simp)
  have d2 := HGA.out.cell (HC.out 2 _ rfl) (by simp)
  have d3 := HGA.out.cell (HC.out 3 _ rfl) (by simp)
  have d4 := HGA.out.cell (HC.out 4 _ rfl) (by simp)
  have d5 := HGA.out.cell (HC.out 5 _ rfl) (by simp)
  have d6 := HGA.out.cell (HC.out 6 _ rfl) (by simp)
  rw [Nat.add_zero] at d0
  have hgw := Nat.lt_of_lt_of_le HGW.out HGA.out.size
  have z1 : ¬ 9223372036854775807 < 4 + T.length := by have := HTL.out; omega
  have z2 : ¬ 9223372036854775807 < T.length + 4 := by have := HTL.out; omega
  go_wp2_with fail
  refine (HCA.out WA HGA.out).mono ?_
  rintro e w2 ⟨rfl, hg2⟩
  have HG2 := Lib.hid (gb_trans HGA.out hg2)
  clear hg2
  go_wp2_with fail
  go_ret
  exact ⟨by rw [← HRR.out, ba_cat]; rfl, HG2.out⟩
set_option maxRecDepth 100000 in
set_option maxHeartbeats 16000000 in
theorem rt21 (sn sm su : ByteArray) (ys : Bool) (g off ck : Nat) (ps : Int) (a0 a1 a2 a3 a4 a5 a6 u0 u1 u2 u3 u4 u5 u6 v0 v1 v2 v3 v4 v5 v6 : Value) (TA TB TC : List UInt8) (w : World)
    (hgw : g < w.heap.size) (hc : ∀ i v, [a0, a1, a2, a3, a4, a5, a6, u0, u1, u2, u3, u4, u5, u6, v0, v1, v2, v3, v4, v5, v6][i]? = some v → w.cell? ⟨g, off + i, none⟩ = some v)
    (HA : ∀ W, w.grownBy W none → Calls Tryz.prog 7 #[.agg #[a0, a1, a2, a3, a4, a5, a6]] W (StrX TA W)) (hA : TA.length ≤ 1000000010) (HB : ∀ W, w.grownBy W none → Calls Tryz.prog 7 #[.agg #[u0, u1, u2, u3, u4, u5, u6]] W (StrX TB W)) (hB : TB.length ≤ 1000000010) (HC : ∀ W, w.grownBy W none → Calls Tryz.prog 7 #[.agg #[v0, v1, v2, v3, v4, v5, v6]] W (StrX TC W)) (hC : TC.length ≤ 1000000010) :
    Calls Tryz.prog 7 #[.agg #[.int .i64 21, .string sn, .string sm, .string su, .bool ys, .slice (some ⟨g, off, none⟩) 3 ck, .int .i64 ps]] w (StrX ([105, 102, 32] ++ TA ++ [32, 116, 104, 101, 110, 32] ++ TB ++ [32, 101, 108, 115, 101, 32] ++ TC) w) := by
  have z0 : ¬ 9223372036854775807 < 3 + TA.length := by omega
  have z1 : ¬ 9223372036854775807 < 3 + TA.length + 6 := by omega
  have z2 : ¬ 9223372036854775807 < 3 + TA.length + 6 + TB.length := by omega
  have z3 : ¬ 9223372036854775807 < 3 + TA.length + 6 + TB.length + 6 := by omega
  have z4 : ¬ 9223372036854775807 < 3 + TA.length + 6 + TB.length + 6 + TC.length := by omega
  have HCL := Lib.hid hc; have HGW := Lib.hid hgw; have HKA := Lib.hid HA; have HKB := Lib.hid HB; have HKC := Lib.hid HC
  clear hc hgw HA HB HC
  obtain ⟨R, hR⟩ : ∃ R, ([105, 102, 32] ++ TA ++ [32, 116, 104, 101, 110, 32] ++ TB ++ [32, 101, 108, 115, 101, 32] ++ TC) = R := ⟨_, rfl⟩
  rw [hR]
  have HRR := Lib.hid hR
  clear hR
  go_enter Tryz.func7, Tryz.ntmps7
  go_upto_region 1 with fail
  have hgA := World.grownBy_alloc w (.cells #[.int .i64 21, .string sn, .string sm, .string su, .bool ys, .slice (some ⟨g, off, none⟩) 3 ck, .int .i64 ps] 34) none
  have hbA := heap_alloc_new w (.cells #[.int .i64 21, .string sn, .string sm, .string su, .bool ys, .slice (some ⟨g, off, none⟩) 3 ck, .int .i64 ps] 34)
  generalize (w.alloc (.cells #[.int .i64 21, .string sn, .string sm, .string su, .bool ys, .slice (some ⟨g, off, none⟩) 3 ck, .int .i64 ps] 34)) = WA at *
  obtain ⟨b, hb⟩ : ∃ b, w.heap.size = b := ⟨_, rfl⟩
  rw [hb] at hbA ⊢
  have HGA := Lib.hid hgA; have HBA := Lib.hid hbA
  clear hgA hbA hb
  obtain ⟨c0, c1, c2, c3, c4, c5, c6, hbw⟩ := cells7x HBA.out
  have d0 := HGA.out.cell (by have h0 := HCL.out 0 _ rfl; rwa [Nat.add_zero] at h0) (by simp)
  have d1 := HGA.out.cell (HCL.out 1 _ rfl) (by simp)
  have d2 := HGA.out.cell (HCL.out 2 _ rfl) (by simp)
  have d3 := HGA.out.cell (HCL.out 3 _ rfl) (by simp)
  have d4 := HGA.out.cell (HCL.out 4 _ rfl) (by simp)
  have d5 := HGA.out.cell (HCL.out 5 _ rfl) (by simp)
  have d6 := HGA.out.cell (HCL.out 6 _ rfl) (by simp)
  have d7 := HGA.out.cell (HCL.out 7 _ rfl) (by simp)
  have d8 := HGA.out.cell (HCL.out 8 _ rfl) (by simp)
  have d9 := HGA.out.cell (HCL.out 9 _ rfl) (by simp)
  have d10 := HGA.out.cell (HCL.out 10 _ rfl) (by simp)
  have d11 := HGA.out.cell (HCL.out 11 _ rfl) (by simp)
  have d12 := HGA.out.cell (HCL.out 12 _ rfl) (by simp)
  have d13 := HGA.out.cell (HCL.out 13 _ rfl) (by simp)
  have d14 := HGA.out.cell (HCL.out 14 _ rfl) (by simp)
  have d15 := HGA.out.cell (HCL.out 15 _ rfl) (by simp)
  have d16 := HGA.out.cell (HCL.out 16 _ rfl) (by simp)
  have d17 := HGA.out.cell (HCL.out 17 _ rfl) (by simp)
  have d18 := HGA.out.cell (HCL.out 18 _ rfl) (by simp)
  have d19 := HGA.out.cell (HCL.out 19 _ rfl) (by simp)
  have d20 := HGA.out.cell (HCL.out 20 _ rfl) (by simp)
  have hgw := Nat.lt_of_lt_of_le HGW.out HGA.out.size
  go_upto_region 17 with fail
  go_region_held3 (fun w' => w'.cell? ⟨b, 5, none⟩ = some (.slice (some ⟨g, off, none⟩) 3 ck) ∧ w'.cell? ⟨g, off, none⟩ = some a0 ∧ w'.cell? ⟨g, off + 1, none⟩ = some a1 ∧ w'.cell? ⟨g, off + 2, none⟩ = some a2 ∧ w'.cell? ⟨g, off + 3, none⟩ = some a3 ∧ w'.cell? ⟨g, off + 4, none⟩ = some a4 ∧ w'.cell? ⟨g, off + 5, none⟩ = some a5 ∧ w'.cell? ⟨g, off + 6, none⟩ = some a6 ∧ w'.cell? ⟨g, off + 7, none⟩ = some u0 ∧ w'.cell? ⟨g, off + 8, none⟩ = some u1 ∧ w'.cell? ⟨g, off + 9, none⟩ = some u2 ∧ w'.cell? ⟨g, off + 10, none⟩ = some u3 ∧ w'.cell? ⟨g, off + 11, none⟩ = some u4 ∧ w'.cell? ⟨g, off + 12, none⟩ = some u5 ∧ w'.cell? ⟨g, off + 13, none⟩ = some u6 ∧ w'.cell? ⟨g, off + 14, none⟩ = some v0 ∧ w'.cell? ⟨g, off + 15, none⟩ = some v1 ∧ w'.cell? ⟨g, off + 16, none⟩ = some v2 ∧ w'.cell? ⟨g, off + 17, none⟩ = some v3 ∧ w'.cell? ⟨g, off + 18, none⟩ = some v4 ∧ w'.cell? ⟨g, off + 19, none⟩ = some v5 ∧ w'.cell? ⟨g, off + 20, none⟩ = some v6)
    (first | with_reducible exact ⟨c5, d0, d1, d2, d3, d4, d5, d6, d7, d8, d9, d10, d11, d12, d13, d14, d15, d16, d17, d18, d19, d20⟩ | go_keep)
    (first | (have h2z := HG3.out; go_at_call 7; refine (HKC.out w3 HG3.out).mono ?_; rintro e w4 ⟨rfl, hg4⟩; have HX4 := Lib.hid (gb_trans HX3.out hg4); have HG4 := Lib.hid (gb_trans HG3.out hg4); obtain ⟨c0, c1, c2, c3, c4, c5, c6, hbw⟩ := cells7x (bx HX4.out HBA.out); have d0 := HG4.out.cell (by have h0 := HCL.out 0 _ rfl; rwa [Nat.add_zero] at h0) (by simp); have d1 := HG4.out.cell (HCL.out 1 _ rfl) (by simp); have d2 := HG4.out.cell (HCL.out 2 _ rfl) (by simp); have d3 := HG4.out.cell (HCL.out 3 _ rfl) (by simp); have d4 := HG4.out.cell (HCL.out 4 _ rfl) (by simp); have d5 := HG4.out.cell (HCL.out 5 _ rfl) (by simp); have d6 := HG4.out.cell (HCL.out 6 _ rfl) (by simp); have d7 := HG4.out.cell (HCL.out 7 _ rfl) (by simp); have d8 := HG4.out.cell (HCL.out 8 _ rfl) (by simp); have d9 := HG4.out.cell (HCL.out 9 _ rfl) (by simp); have d10 := HG4.out.cell (HCL.out 10 _ rfl) (by simp); have d11 := HG4.out.cell (HCL.out 11 _ rfl) (by simp); have d12 := HG4.out.cell (HCL.out 12 _ rfl) (by simp); have d13 := HG4.out.cell (HCL.out 13 _ rfl) (by simp); have d14 := HG4.out.cell (HCL.out 14 _ rfl) (by simp); have d15 := HG4.out.cell (HCL.out 15 _ rfl) (by simp); have d16 := HG4.out.cell (HCL.out 16 _ rfl) (by simp); have d17 := HG4.out.cell (HCL.out 17 _ rfl) (by simp); have d18 := HG4.out.cell (HCL.out 18 _ rfl) (by simp); have d19 := HG4.out.cell (HCL.out 19 _ rfl) (by simp); have d20 := HG4.out.cell (HCL.out 20 _ rfl) (by simp); clear hg4) | (have h1z := HG2.out; go_at_call 7; refine (HKB.out w2 HG2.out).mono ?_; rintro e w3 ⟨rfl, hg3⟩; have HX3 := Lib.hid (gb_trans HX2.out hg3); have HG3 := Lib.hid (gb_trans HG2.out hg3); obtain ⟨c0, c1, c2, c3, c4, c5, c6, hbw⟩ := cells7x (bx HX3.out HBA.out); have d0 := HG3.out.cell (by have h0 := HCL.out 0 _ rfl; rwa [Nat.add_zero] at h0) (by simp); have d1 := HG3.out.cell (HCL.out 1 _ rfl) (by simp); have d2 := HG3.out.cell (HCL.out 2 _ rfl) (by simp); have d3 := HG3.out.cell (HCL.out 3 _ rfl) (by simp); have d4 := HG3.out.cell (HCL.out 4 _ rfl) (by simp); have d5 := HG3.out.cell (HCL.out 5 _ rfl) (by simp); have d6 := HG3.out.cell (HCL.out 6 _ rfl) (by simp); have d7 := HG3.out.cell (HCL.out 7 _ rfl) (by simp); have d8 := HG3.out.cell (HCL.out 8 _ rfl) (by simp); have d9 := HG3.out.cell (HCL.out 9 _ rfl) (by simp); have d10 := HG3.out.cell (HCL.out 10 _ rfl) (by simp); have d11 := HG3.out.cell (HCL.out 11 _ rfl) (by simp); have d12 := HG3.out.cell (HCL.out 12 _ rfl) (by simp); have d13 := HG3.out.cell (HCL.out 13 _ rfl) (by simp); have d14 := HG3.out.cell (HCL.out 14 _ rfl) (by simp); have d15 := HG3.out.cell (HCL.out 15 _ rfl) (by simp); have d16 := HG3.out.cell (HCL.out 16 _ rfl) (by simp); have d17 := HG3.out.cell (HCL.out 17 _ rfl) (by simp); have d18 := HG3.out.cell (HCL.out 18 _ rfl) (by simp); have d19 := HG3.out.cell (HCL.out 19 _ rfl) (by simp); have d20 := HG3.out.cell (HCL.out 20 _ rfl) (by simp); clear hg3) | (go_at_call 7; refine (HKA.out WA.drew (gb_trans HGA.out (gb_drew (gb_refl _ _)))).mono ?_; rintro e w2 ⟨rfl, hg2⟩; have HX2 := Lib.hid (gb_trans (gb_drew (gb_refl WA none)) hg2); have HG2 := Lib.hid (gb_trans HGA.out HX2.out); obtain ⟨c0, c1, c2, c3, c4, c5, c6, hbw⟩ := cells7x (bx HX2.out HBA.out); have d0 := HG2.out.cell (by have h0 := HCL.out 0 _ rfl; rwa [Nat.add_zero] at h0) (by simp); have d1 := HG2.out.cell (HCL.out 1 _ rfl) (by simp); have d2 := HG2.out.cell (HCL.out 2 _ rfl) (by simp); have d3 := HG2.out.cell (HCL.out 3 _ rfl) (by simp); have d4 := HG2.out.cell (HCL.out 4 _ rfl) (by simp); have d5 := HG2.out.cell (HCL.out 5 _ rfl) (by simp); have d6 := HG2.out.cell (HCL.out 6 _ rfl) (by simp); have d7 := HG2.out.cell (HCL.out 7 _ rfl) (by simp); have d8 := HG2.out.cell (HCL.out 8 _ rfl) (by simp); have d9 := HG2.out.cell (HCL.out 9 _ rfl) (by simp); have d10 := HG2.out.cell (HCL.out 10 _ rfl) (by simp); have d11 := HG2.out.cell (HCL.out 11 _ rfl) (by simp); have d12 := HG2.out.cell (HCL.out 12 _ rfl) (by simp); have d13 := HG2.out.cell (HCL.out 13 _ rfl) (by simp); have d14 := HG2.out.cell (HCL.out 14 _ rfl) (by simp); have d15 := HG2.out.cell (HCL.out 15 _ rfl) (by simp); have d16 := HG2.out.cell (HCL.out 16 _ rfl) (by simp); have d17 := HG2.out.cell (HCL.out 17 _ rfl) (by simp); have d18 := HG2.out.cell (HCL.out 18 _ rfl) (by simp); have d19 := HG2.out.cell (HCL.out 19 _ rfl) (by simp); have d20 := HG2.out.cell (HCL.out 20 _ rfl) (by simp); clear hg2) | fail)
  all_goals
    go_wp2_with fail
    go_ret
    exact ⟨by rw [← HRR.out, ba_cat, ba_cat, ba_cat, ba_cat, ba_cat]; rfl, HG4.out⟩
set_option maxRecDepth 100000 in
set_option maxHeartbeats 16000000 in
theorem rt22 (nm : List UInt8) (sm su : ByteArray) (ys : Bool) (g off ck : Nat) (ps : Int) (a0 a1 a2 a3 a4 a5 a6 u0 u1 u2 u3 u4 u5 u6 : Value) (TA TB : List UInt8) (w : World)
    (hnm : nm.length ≤ 60000)
    (hgw : g < w.heap.size) (hc : ∀ i v, [a0, a1, a2, a3, a4, a5, a6, u0, u1, u2, u3, u4, u5, u6][i]? = some v → w.cell? ⟨g, off + i, none⟩ = some v)
    (HA : ∀ W, w.grownBy W none → Calls Tryz.prog 7 #[.agg #[a0, a1, a2, a3, a4, a5, a6]] W (StrX TA W)) (hA : TA.length ≤ 1000000010) (HB : ∀ W, w.grownBy W none → Calls Tryz.prog 7 #[.agg #[u0, u1, u2, u3, u4, u5, u6]] W (StrX TB W)) (hB : TB.length ≤ 1000000010) :
    Calls Tryz.prog 7 #[.agg #[.int .i64 22, .string ⟨nm.toArray⟩, .string sm, .string su, .bool ys, .slice (some ⟨g, off, none⟩) 2 ck, .int .i64 ps]] w (StrX ([108, 101, 116, 32] ++ nm ++ [32, 61, 32] ++ TA ++ [32, 105, 110, 32] ++ TB) w) := by
  have z0 : ¬ 9223372036854775807 < 4 + nm.length := by omega
  have z1 : ¬ 9223372036854775807 < 4 + nm.length + 3 := by omega
  have z2 : ¬ 9223372036854775807 < 4 + nm.length + 3 + TA.length := by omega
  have z3 : ¬ 9223372036854775807 < 4 + nm.length + 3 + TA.length + 4 := by omega
  have z4 : ¬ 9223372036854775807 < 4 + nm.length + 3 + TA.length + 4 + TB.length := by omega
  have HCL := Lib.hid hc; have HGW := Lib.hid hgw; have HKA := Lib.hid HA; have HKB := Lib.hid HB
  clear hc hgw HA HB
  obtain ⟨R, hR⟩ : ∃ R, ([108, 101, 116, 32] ++ nm ++ [32, 61, 32] ++ TA ++ [32, 105, 110, 32] ++ TB) = R := ⟨_, rfl⟩
  rw [hR]
  have HRR := Lib.hid hR
  clear hR
  go_enter Tryz.func7, Tryz.ntmps7
  go_upto_region 1 with fail
  have hgA := World.grownBy_alloc w (.cells #[.int .i64 22, .string ⟨nm.toArray⟩, .string sm, .string su, .bool ys, .slice (some ⟨g, off, none⟩) 2 ck, .int .i64 ps] 34) none
  have hbA := heap_alloc_new w (.cells #[.int .i64 22, .string ⟨nm.toArray⟩, .string sm, .string su, .bool ys, .slice (some ⟨g, off, none⟩) 2 ck, .int .i64 ps] 34)
  generalize (w.alloc (.cells #[.int .i64 22, .string ⟨nm.toArray⟩, .string sm, .string su, .bool ys, .slice (some ⟨g, off, none⟩) 2 ck, .int .i64 ps] 34)) = WA at *
  obtain ⟨b, hb⟩ : ∃ b, w.heap.size = b := ⟨_, rfl⟩
  rw [hb] at hbA ⊢
  have HGA := Lib.hid hgA; have HBA := Lib.hid hbA
  clear hgA hbA hb
  obtain ⟨c0, c1, c2, c3, c4, c5, c6, hbw⟩ := cells7x HBA.out
  have d0 := HGA.out.cell (by have h0 := HCL.out 0 _ rfl; rwa [Nat.add_zero] at h0) (by simp)
  have d1 := HGA.out.cell (HCL.out 1 _ rfl) (by simp)
  have d2 := HGA.out.cell (HCL.out 2 _ rfl) (by simp)
  have d3 := HGA.out.cell (HCL.out 3 _ rfl) (by simp)
  have d4 := HGA.out.cell (HCL.out 4 _ rfl) (by simp)
  have d5 := HGA.out.cell (HCL.out 5 _ rfl) (by simp)
  have d6 := HGA.out.cell (HCL.out 6 _ rfl) (by simp)
  have d7 := HGA.out.cell (HCL.out 7 _ rfl) (by simp)
  have d8 := HGA.out.cell (HCL.out 8 _ rfl) (by simp)
  have d9 := HGA.out.cell (HCL.out 9 _ rfl) (by simp)
  have d10 := HGA.out.cell (HCL.out 10 _ rfl) (by simp)
  have d11 := HGA.out.cell (HCL.out 11 _ rfl) (by simp)
  have d12 := HGA.out.cell (HCL.out 12 _ rfl) (by simp)
  have d13 := HGA.out.cell (HCL.out 13 _ rfl) (by simp)
  have hgw := Nat.lt_of_lt_of_le HGW.out HGA.out.size
  go_upto_region 19 with fail
  go_region_held3 (fun w' => w'.cell? ⟨b, 5, none⟩ = some (.slice (some ⟨g, off, none⟩) 2 ck) ∧ w'.cell? ⟨b, 1, none⟩ = some (.string ⟨nm.toArray⟩) ∧ w'.cell? ⟨g, off, none⟩ = some a0 ∧ w'.cell? ⟨g, off + 1, none⟩ = some a1 ∧ w'.cell? ⟨g, off + 2, none⟩ = some a2 ∧ w'.cell? ⟨g, off + 3, none⟩ = some a3 ∧ w'.cell? ⟨g, off + 4, none⟩ = some a4 ∧ w'.cell? ⟨g, off + 5, none⟩ = some a5 ∧ w'.cell? ⟨g, off + 6, none⟩ = some a6 ∧ w'.cell? ⟨g, off + 7, none⟩ = some u0 ∧ w'.cell? ⟨g, off + 8, none⟩ = some u1 ∧ w'.cell? ⟨g, off + 9, none⟩ = some u2 ∧ w'.cell? ⟨g, off + 10, none⟩ = some u3 ∧ w'.cell? ⟨g, off + 11, none⟩ = some u4 ∧ w'.cell? ⟨g, off + 12, none⟩ = some u5 ∧ w'.cell? ⟨g, off + 13, none⟩ = some u6)
    (first | with_reducible exact ⟨c5, c1, d0, d1, d2, d3, d4, d5, d6, d7, d8, d9, d10, d11, d12, d13⟩ | go_keep)
    (first | (have h1z := HG2.out; go_at_call 7; refine (HKB.out w2 HG2.out).mono ?_; rintro e w3 ⟨rfl, hg3⟩; have HX3 := Lib.hid (gb_trans HX2.out hg3); have HG3 := Lib.hid (gb_trans HG2.out hg3); obtain ⟨c0, c1, c2, c3, c4, c5, c6, hbw⟩ := cells7x (bx HX3.out HBA.out); have d0 := HG3.out.cell (by have h0 := HCL.out 0 _ rfl; rwa [Nat.add_zero] at h0) (by simp); have d1 := HG3.out.cell (HCL.out 1 _ rfl) (by simp); have d2 := HG3.out.cell (HCL.out 2 _ rfl) (by simp); have d3 := HG3.out.cell (HCL.out 3 _ rfl) (by simp); have d4 := HG3.out.cell (HCL.out 4 _ rfl) (by simp); have d5 := HG3.out.cell (HCL.out 5 _ rfl) (by simp); have d6 := HG3.out.cell (HCL.out 6 _ rfl) (by simp); have d7 := HG3.out.cell (HCL.out 7 _ rfl) (by simp); have d8 := HG3.out.cell (HCL.out 8 _ rfl) (by simp); have d9 := HG3.out.cell (HCL.out 9 _ rfl) (by simp); have d10 := HG3.out.cell (HCL.out 10 _ rfl) (by simp); have d11 := HG3.out.cell (HCL.out 11 _ rfl) (by simp); have d12 := HG3.out.cell (HCL.out 12 _ rfl) (by simp); have d13 := HG3.out.cell (HCL.out 13 _ rfl) (by simp); clear hg3) | (go_at_call 7; refine (HKA.out WA.drew (gb_trans HGA.out (gb_drew (gb_refl _ _)))).mono ?_; rintro e w2 ⟨rfl, hg2⟩; have HX2 := Lib.hid (gb_trans (gb_drew (gb_refl WA none)) hg2); have HG2 := Lib.hid (gb_trans HGA.out HX2.out); obtain ⟨c0, c1, c2, c3, c4, c5, c6, hbw⟩ := cells7x (bx HX2.out HBA.out); have d0 := HG2.out.cell (by have h0 := HCL.out 0 _ rfl; rwa [Nat.add_zero] at h0) (by simp); have d1 := HG2.out.cell (HCL.out 1 _ rfl) (by simp); have d2 := HG2.out.cell (HCL.out 2 _ rfl) (by simp); have d3 := HG2.out.cell (HCL.out 3 _ rfl) (by simp); have d4 := HG2.out.cell (HCL.out 4 _ rfl) (by simp); have d5 := HG2.out.cell (HCL.out 5 _ rfl) (by simp); have d6 := HG2.out.cell (HCL.out 6 _ rfl) (by simp); have d7 := HG2.out.cell (HCL.out 7 _ rfl) (by simp); have d8 := HG2.out.cell (HCL.out 8 _ rfl) (by simp); have d9 := HG2.out.cell (HCL.out 9 _ rfl) (by simp); have d10 := HG2.out.cell (HCL.out 10 _ rfl) (by simp); have d11 := HG2.out.cell (HCL.out 11 _ rfl) (by simp); have d12 := HG2.out.cell (HCL.out 12 _ rfl) (by simp); have d13 := HG2.out.cell (HCL.out 13 _ rfl) (by simp); clear hg2) | fail)
  all_goals
    go_wp2_with fail
    go_ret
    exact ⟨by rw [← HRR.out, ba_cat, ba_cat, ba_cat, ba_cat, ba_cat]; rfl, HG3.out⟩
set_option maxRecDepth 100000 in
set_option maxHeartbeats 16000000 in
theorem rt23 (sn sm su : ByteArray) (ys : Bool) (g off ck : Nat) (ps : Int) (a0 a1 a2 a3 a4 a5 a6 u0 u1 u2 u3 u4 u5 u6 : Value) (TA TB : List UInt8) (w : World)
    (hgw : g < w.heap.size) (hc : ∀ i v, [a0, a1, a2, a3, a4, a5, a6, u0, u1, u2, u3, u4, u5, u6][i]? = some v → w.cell? ⟨g, off + i, none⟩ = some v)
    (HA : ∀ W, w.grownBy W none → Calls Tryz.prog 7 #[.agg #[a0, a1, a2, a3, a4, a5, a6]] W (StrX TA W)) (hA : TA.length ≤ 1000000010) (HB : ∀ W, w.grownBy W none → Calls Tryz.prog 7 #[.agg #[u0, u1, u2, u3, u4, u5, u6]] W (StrX TB W)) (hB : TB.length ≤ 1000000010) :
    Calls Tryz.prog 7 #[.agg #[.int .i64 23, .string sn, .string sm, .string su, .bool ys, .slice (some ⟨g, off, none⟩) 2 ck, .int .i64 ps]] w (StrX ([97, 115, 115, 101, 114, 116, 32] ++ TA ++ [32, 105, 110, 32] ++ TB) w) := by
  have z0 : ¬ 9223372036854775807 < 7 + TA.length := by omega
  have z1 : ¬ 9223372036854775807 < 7 + TA.length + 4 := by omega
  have z2 : ¬ 9223372036854775807 < 7 + TA.length + 4 + TB.length := by omega
  have HCL := Lib.hid hc; have HGW := Lib.hid hgw; have HKA := Lib.hid HA; have HKB := Lib.hid HB
  clear hc hgw HA HB
  obtain ⟨R, hR⟩ : ∃ R, ([97, 115, 115, 101, 114, 116, 32] ++ TA ++ [32, 105, 110, 32] ++ TB) = R := ⟨_, rfl⟩
  rw [hR]
  have HRR := Lib.hid hR
  clear hR
  go_enter Tryz.func7, Tryz.ntmps7
  go_upto_region 1 with fail
  have hgA := World.grownBy_alloc w (.cells #[.int .i64 23, .string sn, .string sm, .string su, .bool ys, .slice (some ⟨g, off, none⟩) 2 ck, .int .i64 ps] 34) none
  have hbA := heap_alloc_new w (.cells #[.int .i64 23, .string sn, .string sm, .string su, .bool ys, .slice (some ⟨g, off, none⟩) 2 ck, .int .i64 ps] 34)
  generalize (w.alloc (.cells #[.int .i64 23, .string sn, .string sm, .string su, .bool ys, .slice (some ⟨g, off, none⟩) 2 ck, .int .i64 ps] 34)) = WA at *
  obtain ⟨b, hb⟩ : ∃ b, w.heap.size = b := ⟨_, rfl⟩
  rw [hb] at hbA ⊢
  have HGA := Lib.hid hgA; have HBA := Lib.hid hbA
  clear hgA hbA hb
  obtain ⟨c0, c1, c2, c3, c4, c5, c6, hbw⟩ := cells7x HBA.out
  have d0 := HGA.out.cell (by have h0 := HCL.out 0 _ rfl; rwa [Nat.add_zero] at h0) (by simp)
  have d1 := HGA.out.cell (HCL.out 1 _ rfl) (by simp)
  have d2 := HGA.out.cell (HCL.out 2 _ rfl) (by simp)
  have d3 := HGA.out.cell (HCL.out 3 _ rfl) (by simp)
  have d4 := HGA.out.cell (HCL.out 4 _ rfl) (by simp)
  have d5 := HGA.out.cell (HCL.out 5 _ rfl) (by simp)
  have d6 := HGA.out.cell (HCL.out 6 _ rfl) (by simp)
  have d7 := HGA.out.cell (HCL.out 7 _ rfl) (by simp)
  have d8 := HGA.out.cell (HCL.out 8 _ rfl) (by simp)
  have d9 := HGA.out.cell (HCL.out 9 _ rfl) (by simp)
  have d10 := HGA.out.cell (HCL.out 10 _ rfl) (by simp)
  have d11 := HGA.out.cell (HCL.out 11 _ rfl) (by simp)
  have d12 := HGA.out.cell (HCL.out 12 _ rfl) (by simp)
  have d13 := HGA.out.cell (HCL.out 13 _ rfl) (by simp)
  have hgw := Nat.lt_of_lt_of_le HGW.out HGA.out.size
  go_upto_region 21 with fail
  go_region_held3 (fun w' => w'.cell? ⟨b, 5, none⟩ = some (.slice (some ⟨g, off, none⟩) 2 ck) ∧ w'.cell? ⟨g, off, none⟩ = some a0 ∧ w'.cell? ⟨g, off + 1, none⟩ = some a1 ∧ w'.cell? ⟨g, off + 2, none⟩ = some a2 ∧ w'.cell? ⟨g, off + 3, none⟩ = some a3 ∧ w'.cell? ⟨g, off + 4, none⟩ = some a4 ∧ w'.cell? ⟨g, off + 5, none⟩ = some a5 ∧ w'.cell? ⟨g, off + 6, none⟩ = some a6 ∧ w'.cell? ⟨g, off + 7, none⟩ = some u0 ∧ w'.cell? ⟨g, off + 8, none⟩ = some u1 ∧ w'.cell? ⟨g, off + 9, none⟩ = some u2 ∧ w'.cell? ⟨g, off + 10, none⟩ = some u3 ∧ w'.cell? ⟨g, off + 11, none⟩ = some u4 ∧ w'.cell? ⟨g, off + 12, none⟩ = some u5 ∧ w'.cell? ⟨g, off + 13, none⟩ = some u6)
    (first | with_reducible exact ⟨c5, d0, d1, d2, d3, d4, d5, d6, d7, d8, d9, d10, d11, d12, d13⟩ | go_keep)
    (first | (have h1z := HG2.out; go_at_call 7; refine (HKB.out w2 HG2.out).mono ?_; rintro e w3 ⟨rfl, hg3⟩; have HX3 := Lib.hid (gb_trans HX2.out hg3); have HG3 := Lib.hid (gb_trans HG2.out hg3); obtain ⟨c0, c1, c2, c3, c4, c5, c6, hbw⟩ := cells7x (bx HX3.out HBA.out); have d0 := HG3.out.cell (by have h0 := HCL.out 0 _ rfl; rwa [Nat.add_zero] at h0) (by simp); have d1 := HG3.out.cell (HCL.out 1 _ rfl) (by simp); have d2 := HG3.out.cell (HCL.out 2 _ rfl) (by simp); have d3 := HG3.out.cell (HCL.out 3 _ rfl) (by simp); have d4 := HG3.out.cell (HCL.out 4 _ rfl) (by simp); have d5 := HG3.out.cell (HCL.out 5 _ rfl) (by simp); have d6 := HG3.out.cell (HCL.out 6 _ rfl) (by simp); have d7 := HG3.out.cell (HCL.out 7 _ rfl) (by simp); have d8 := HG3.out.cell (HCL.out 8 _ rfl) (by simp); have d9 := HG3.out.cell (HCL.out 9 _ rfl) (by simp); have d10 := HG3.out.cell (HCL.out 10 _ rfl) (by simp); have d11 := HG3.out.cell (HCL.out 11 _ rfl) (by simp); have d12 := HG3.out.cell (HCL.out 12 _ rfl) (by simp); have d13 := HG3.out.cell (HCL.out 13 _ rfl) (by simp); clear hg3) | (go_at_call 7; refine (HKA.out WA.drew (gb_trans HGA.out (gb_drew (gb_refl _ _)))).mono ?_; rintro e w2 ⟨rfl, hg2⟩; have HX2 := Lib.hid (gb_trans (gb_drew (gb_refl WA none)) hg2); have HG2 := Lib.hid (gb_trans HGA.out HX2.out); obtain ⟨c0, c1, c2, c3, c4, c5, c6, hbw⟩ := cells7x (bx HX2.out HBA.out); have d0 := HG2.out.cell (by have h0 := HCL.out 0 _ rfl; rwa [Nat.add_zero] at h0) (by simp); have d1 := HG2.out.cell (HCL.out 1 _ rfl) (by simp); have d2 := HG2.out.cell (HCL.out 2 _ rfl) (by simp); have d3 := HG2.out.cell (HCL.out 3 _ rfl) (by simp); have d4 := HG2.out.cell (HCL.out 4 _ rfl) (by simp); have d5 := HG2.out.cell (HCL.out 5 _ rfl) (by simp); have d6 := HG2.out.cell (HCL.out 6 _ rfl) (by simp); have d7 := HG2.out.cell (HCL.out 7 _ rfl) (by simp); have d8 := HG2.out.cell (HCL.out 8 _ rfl) (by simp); have d9 := HG2.out.cell (HCL.out 9 _ rfl) (by simp); have d10 := HG2.out.cell (HCL.out 10 _ rfl) (by simp); have d11 := HG2.out.cell (HCL.out 11 _ rfl) (by simp); have d12 := HG2.out.cell (HCL.out 12 _ rfl) (by simp); have d13 := HG2.out.cell (HCL.out 13 _ rfl) (by simp); clear hg2) | fail)
  all_goals
    go_wp2_with fail
    go_ret
    exact ⟨by rw [← HRR.out, ba_cat, ba_cat, ba_cat]; rfl, HG3.out⟩
set_option maxRecDepth 100000 in
set_option maxHeartbeats 16000000 in
theorem rt24 (sn sm su : ByteArray) (ys : Bool) (pk : Option Addr) (kl ck : Nat) (ps : Int) (R : List UInt8) (w : World)
    (HA : ∀ W, w.grownBy W none → Calls Tryz.prog 18 #[.agg #[.int .i64 24, .string sn, .string sm, .string su, .bool ys, .slice pk kl ck, .int .i64 ps]] W (StrX R W)) :
    Calls Tryz.prog 7 #[.agg #[.int .i64 24, .string sn, .string sm, .string su, .bool ys, .slice pk kl ck, .int .i64 ps]] w (StrX R w) := by
  have HCA := Lib.hid HA
  clear HA
  go_enter Tryz.func7, Tryz.ntmps7
  go_upto_region 1 with fail
  have hgA := World.grownBy_alloc w (.cells #[.int .i64 24, .string sn, .string sm, .string su, .bool ys, .slice pk kl ck, .int .i64 ps] 34) none
  have hbA := heap_alloc_new w (.cells #[.int .i64 24, .string sn, .string sm, .string su, .bool ys, .slice pk kl ck, .int .i64 ps] 34)
  generalize (w.alloc (.cells #[.int .i64 24, .string sn, .string sm, .string su, .bool ys, .slice pk kl ck, .int .i64 ps] 34)) = WA at *
  obtain ⟨b, hb⟩ : ∃ b, w.heap.size = b := ⟨_, rfl⟩
  rw [hb] at hbA ⊢
  have HGA := Lib.hid hgA; have HBA := Lib.hid hbA
  clear hgA hbA hb
  obtain ⟨c0, c1, c2, c3, c4, c5, c6, hbw⟩ := cells7x HBA.out
  go_wp2_with fail
  refine (HCA.out WA HGA.out).mono ?_
  rintro e w2 ⟨rfl, hg2⟩
  have HG2 := Lib.hid (gb_trans HGA.out hg2)
  clear hg2
  go_wp2_with fail
  go_ret
  exact ⟨rfl, HG2.out⟩
set_option maxRecDepth 100000 in
set_option maxHeartbeats 16000000 in
theorem rtE (op : Int) (sn sm su : ByteArray) (ys : Bool) (pk : Option Addr) (kl ck : Nat) (ps : Int) (R : List UInt8) (w : World)
    (h7 : 7 ≤ op) (h20 : op ≤ 20)
    (HA : ∀ W, w.grownBy W none → Calls Tryz.prog 19 #[.agg #[.int .i64 op, .string sn, .string sm, .string su, .bool ys, .slice pk kl ck, .int .i64 ps]] W (StrX R W)) :
    Calls Tryz.prog 7 #[.agg #[.int .i64 op, .string sn, .string sm, .string su, .bool ys, .slice pk kl ck, .int .i64 ps]] w (StrX R w) := by
  have HCA := Lib.hid HA
  have e1 : (op == 1) = false := beq_eq_false_iff_ne.2 (by omega)
  have e2 : (op == 2) = false := beq_eq_false_iff_ne.2 (by omega)
  have e3 : (op == 3) = false := beq_eq_false_iff_ne.2 (by omega)
  have e4 : (op == 4) = false := beq_eq_false_iff_ne.2 (by omega)
  have e5 : (op == 5) = false := beq_eq_false_iff_ne.2 (by omega)
  have e6 : (op == 6) = false := beq_eq_false_iff_ne.2 (by omega)
  have e21 : (op == 21) = false := beq_eq_false_iff_ne.2 (by omega)
  have e22 : (op == 22) = false := beq_eq_false_iff_ne.2 (by omega)
  have e23 : (op == 23) = false := beq_eq_false_iff_ne.2 (by omega)
  have e24 : (op == 24) = false := beq_eq_false_iff_ne.2 (by omega)
  clear h7 h20
  clear HA
  go_enter Tryz.func7, Tryz.ntmps7
  go_upto_region 1 with fail
  have hgA := World.grownBy_alloc w (.cells #[.int .i64 op, .string sn, .string sm, .string su, .bool ys, .slice pk kl ck, .int .i64 ps] 34) none
  have hbA := heap_alloc_new w (.cells #[.int .i64 op, .string sn, .string sm, .string su, .bool ys, .slice pk kl ck, .int .i64 ps] 34)
  generalize (w.alloc (.cells #[.int .i64 op, .string sn, .string sm, .string su, .bool ys, .slice pk kl ck, .int .i64 ps] 34)) = WA at *
  obtain ⟨b, hb⟩ : ∃ b, w.heap.size = b := ⟨_, rfl⟩
  rw [hb] at hbA ⊢
  have HGA := Lib.hid hgA; have HBA := Lib.hid hbA
  clear hgA hbA hb
  obtain ⟨c0, c1, c2, c3, c4, c5, c6, hbw⟩ := cells7x HBA.out
  go_wp2_with fail
  refine (HCA.out WA HGA.out).mono ?_
  rintro e w2 ⟨rfl, hg2⟩
  have HG2 := Lib.hid (gb_trans HGA.out hg2)
  clear hg2
  go_wp2_with fail
  go_ret
  exact ⟨rfl, HG2.out⟩
end Go.Proofs.YtijpelkjeejjfaaGreatDoor
