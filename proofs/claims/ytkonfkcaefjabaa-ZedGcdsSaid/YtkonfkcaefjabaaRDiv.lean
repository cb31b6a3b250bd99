/- The document's long division, digit by digit. -/
import Derived.Test.YtkonfkcaefjabaaKnownZ
import Derived.Laws.AppendOwnNone
import Derived.Deep.DeepMust
import Derived.Deep.RegionWith
import Derived.BigRegion
import Derived.Deep.CutBlock
import Derived.Deep.DeepCutAuto
namespace Go.Proofs.Ytkonfkcaefjabaa
open Go.RowKit Mx

/-- A row put behind one number, as a step of the walk. -/
theorem wpList_appR {w0 : World} {ops : Array Oper} {rest : List Oper} {o : Oper} {a : Act} {Q : Exit → Act → World → Prop} (hgd : o.guard = none) (s x : Operand) (ho : o.op = .call { callee := .builtin .append, args := #[s, x], argTypes := #[29, 29] })
    (base : Nat) (Y : Int) (y : Nat) (hY : Y = (y : Int)) (l cr : Nat) (pr : Option Addr) (h : Nat → Nat) (hs : a.eval s = .slice (some ⟨w0.heap.size, 0, none⟩) 1 1) (hx : a.eval x = .slice pr l cr) (hat : At .i64 w0 pr l h) (hz : l = 0 → pr = none ∧ cr = 0) (hl : l ≤ 1000000) (hbase : base ≤ w0.heap.size)
    (K : ∀ v' w', Own .i64 3 w' base v' (l + 1) (fun j => if j = 0 then y else h (j - 1)) → w0.grownBy w' none → wpList Try.prog ops Q rest (a.put o.dst v') w') :
    wpList Try.prog ops Q (o :: rest) a (w0.alloc (.cells #[.int .i64 Y] 3)) := by
  subst hY
  obtain ⟨i0, hi, hz0, hz1, hz2⟩ := info_parts infoI
  have hlst : lst .i64 (l + 1) (fun j => if j = 0 then y else h (j - 1)) = [Value.int .i64 (y : Int)] ++ lst .i64 l h := by
    unfold lst
    rw [List.range_succ_eq_map]
    simp [List.map_map, Function.comp_def]
  have hown : (w0.alloc (.cells #[.int .i64 (y : Int)] 3)).ownsRow base 3 1 (.slice (some ⟨w0.heap.size, 0, none⟩) 1 1) 1 [.int .i64 (y : Int)] :=
    ⟨rfl, .inr ⟨w0.heap.size, 1, _, rfl, hbase, heap_alloc_new w0 _, Nat.le_refl _, by unfold maxLen; omega, rfl, rfl⟩⟩
  by_cases h0 : l = 0
  · obtain ⟨rfl, rfl⟩ := hz h0
    subst h0
    refine wpList_append_own_none hgd s x 29 ho base 3 i0 1 Try.underlying29 hi _ 1 _ hs hown hx (K _ _ ?_ (World.grownBy_alloc _ _ none))
    unfold Own
    rw [hlst]; exact hown
  · obtain ⟨g, off, rfl, hg, hc⟩ : ∃ g off, pr = some ⟨g, off, none⟩ ∧ g < w0.heap.size ∧ ∀ j, j < l → w0.cell? ⟨g, off + j, none⟩ = some (.int .i64 (h j)) := by
      rcases hat with h | h
      · omega
      · exact h
    have hg1 := World.grownBy_alloc w0 (.cells #[.int .i64 (y : Int)] 3) none
    refine wpList_append_own (P := Try.prog) _ hgd s x 29 ho base 3 i0 (.int .i64 0) 1 8 Try.underlying29 hi hz0 hz1 hz2 rfl (by decide) _ 1 _ hs hown ⟨g, off, none⟩ l cr (lst .i64 l h) hx (by rw [lst_len]; omega) ?_ ?_ (by unfold maxLen; omega) (by omega) (by simp; omega) ?_
    · intro j u hj
      have hjl : j < l := by
        have := (List.getElem?_eq_some_iff.1 hj).1
        rwa [lst_len] at this
      rw [lst_get hjl] at hj
      injection hj with hj
      subst hj
      rw [addr_add]
      exact hg1.cell (hc j hjl) (by simp)
    · intro u hu
      unfold lst at hu
      simp at hu
      obtain ⟨j, _, rfl⟩ := hu
      rfl
    · intro v' w' h1 h2 _
      refine K v' w' ?_ ?_
      · unfold Own
        rw [hlst, Nat.add_comm l 1]; exact h1
      · exact ⟨h2.os, h2.tape, h2.output, Nat.le_trans (by simp) h2.size, fun j hj _ => (h2.block j (by simp; omega) (by simp [Value.ownBlock]; omega)).trans (Below.heap_alloc w0 _ j hj)⟩

/-- What made tells, none for nought. -/
def Made2 (p : Option Addr) (Z : Int) (w : World) (e : Ending) (w' : World) : Prop := ∃ s3 p3 n3 c3, e = .returned (.agg #[.int .i64 s3, .slice p3 n3 c3]) ∧ IsZ w' (.agg #[.int .i64 s3, .slice p3 n3 c3]) Z ∧ w.grownBy w' none ∧ (0 < n3 → p3 = p) ∧ (n3 = 0 → p3 = none ∧ c3 = 0)

set_option maxHeartbeats 1000000 in
theorem made2_c (s : Int) (p : Option Addr) (n cap : Nat) (f : Nat → Nat) (w : World) (hs : s = -1 ∨ s = 0 ∨ s = 1) (h0 : s = 0 → V 10 f 0 n = 0) (hn : n ≤ cap) (hc : cap ≤ maxLen) (h : At .i64 w p n f) (hf : ∀ j, j < n → f j < 10) :
    Calls Try.prog 42 #[.int .i64 s, .slice p n cap] w (Made2 p (s * V 10 f 0 n) w) := by
  have hz0 : ∀ (v : Nat), v = 0 → (s * (v : Int)) = 0 := fun v h => by subst h; simp
  have HFIN := Lib.hid (fun (m : Nat) (W : World) (hg : w.grownBy W none) (hm : m ≤ n) (hz : ∀ j, m ≤ j → j < n → f j = 0) (hp : 0 < m) (ht : f (m - 1) ≠ 0) => made_fin hs h0 hm hn hc (h.grown hg (by simp)) hf hz hp ht)
  have hgw := World.grownBy_alloc w (.cells #[.int .i64 0, .slice none 0 0] 31) none
  have h := h.grown hgw (by simp)
  have HG := Lib.hid hgw
  have HZ0 := Lib.hid hz0
  clear hgw hz0 hs h0 hf
  unfold maxLen at hc
  go_enter Try.func42, Try.ntmps42
  go_wp2
  go_loop [5] (fun i => ∃ m : Nat, m ≤ n ∧ i = .int .i64 m ∧ Hid (∀ j, m ≤ j → j < n → f j = 0)) (fun i => (intOf i).toNat)
  case atStart => exact ⟨n, Nat.le_refl _, rfl, fun j h1 h2 => by omega⟩
  case round =>
    obtain ⟨m, hm, rfl, HZ⟩ := hrel
    by_cases h0 : 0 < m
    · rcases h with h | ⟨g, off, rfl, hg, hcell⟩
      · omega
      have hk := hcell (m - 1) (by omega)
      clear hcell
      have hi : (0:Int) < (m : Int) := by omega
      by_cases hv : f (m - 1) = 0
      · rw [hv] at hk
        have HV := Lib.hid hv
        clear hv
        go_wp2
        go_round
        case rel => exact ⟨m - 1, by omega, val_of (by omega), fun j h1 h2 => by
          by_cases e : j = m - 1
          · subst e; exact HV.out
          · exact HZ.out j (by omega) h2⟩
        case measure => simp [intOf]; omega
      · have HV := Lib.hid hv
        have hv1 : ((f (m - 1) : Int) == 0) = false := beq_eq_false_iff_ne.2 (by omega)
        have hv2 : ((m : Int) == 0) = false := beq_eq_false_iff_ne.2 (by omega)
        have hg2 := World.grownBy_alloc w (.cells #[.int .i64 s, .slice (some ⟨g, off, none⟩) m cap] 31) none
        have HG2 := Lib.hid hg2
        clear hv hg2
        go_wp2
        exact bodyPost_ret (v := .agg #[.int .i64 s, .slice (some ⟨g, off, none⟩) m cap]) (by simp [results, Try.results42, go_sem]) rfl ⟨_, _, _, _, rfl, HFIN.out m _ HG2.out hm HZ.out h0 HV.out, HG2.out, fun _ => rfl, fun h => by omega⟩
    · obtain rfl : m = 0 := by omega
      have hv0 : V 10 f 0 n = 0 := V_zeros (fun j hj => by simpa using HZ.out j (Nat.zero_le _) hj)
      have HV0 := Lib.hid (HZ0.out _ hv0)
      clear hv0
      go_wp2
      exact bodyPost_ret (v := .agg #[.int .i64 0, .slice none 0 0]) (by simp [results, Try.results42, go_sem]) rfl ⟨_, _, _, _, rfl, by rw [HV0.out]; exact isZ_zero _, HG.out, fun h => by omega, fun _ => ⟨rfl, rfl⟩⟩

/-- A rest: digits of R, above block g, none for nought. -/
def IsRest (w : World) (g : Nat) (p : Option Addr) (l c : Nat) (R : Nat) : Prop :=
  IsZ w (.agg #[.int .i64 (sg (R : Int)), .slice p l c]) (R : Int) ∧ (0 < l → ∃ a, p = some a ∧ g < a.block) ∧ (l = 0 → p = none ∧ c = 0)

theorem IsRest.kept {w w' : World} {g : Nat} {p : Option Addr} {l c R : Nat} (h : IsRest w g p l c R) (hg : w.grownBy w' none) : IsRest w' g p l c R :=
  ⟨h.1.kept hg, h.2⟩

/-- A rest outlives a write to block g. -/
theorem IsRest.off {w w' : World} {g : Nat} {p : Option Addr} {l c R : Nat} (h : IsRest w g p l c R) (hg : w.grownBy w' (some g)) : IsRest w' g p l c R := by
  obtain ⟨h1, h2, h3⟩ := h
  obtain ⟨hs, k1, k2, f, hat, hf, ht, hv⟩ := z_open h1
  refine ⟨⟨p, l, c, f, rfl, k1, k2, ?_, hf, ht, hv⟩, h2, h3⟩
  by_cases hl : l = 0
  · exact .inl hl
  · refine hat.grown hg (fun a ha => ?_)
    obtain ⟨b, hb, hlt⟩ := h2 (by omega)
    rw [ha] at hb
    injection hb with hb
    subst hb
    simp; omega

theorem rest_zero (w : World) (g : Nat) : IsRest w g none 0 0 0 := ⟨isZ_zero w, fun h => by omega, fun _ => ⟨rfl, rfl⟩⟩

theorem rest_of {w : World} {g : Nat} {s3 : Int} {p3 p : Option Addr} {n3 c3 R : Nat} (h : IsZ w (.agg #[.int .i64 s3, .slice p3 n3 c3]) (R : Int)) (h1 : 0 < n3 → p3 = p) (h2 : n3 = 0 → p3 = none ∧ c3 = 0) (hp : ∀ a, p = some a → g < a.block) : IsRest w g p3 n3 c3 R := by
  have hs := (z_open h).1
  subst hs
  refine ⟨h, fun hn => ?_, h2⟩
  obtain ⟨a, ha, -⟩ := z_some h hn
  exact ⟨a, ha, hp a ((h1 hn).symm.trans ha)⟩

theorem put_front {h : Nat → Nat} {l y : Nat} : V 10 (fun j => if j = 0 then y else h (j - 1)) 0 (l + 1) = y + 10 * V 10 h 0 l := by
  rw [V_front]
  congr 1
  congr 1
  exact V_congr fun j hj => by
    show (if 1 + j = 0 then y else h (1 + j - 1)) = h (0 + j)
    rw [if_neg (by omega), show 1 + j - 1 = 0 + j by omega]

theorem div_step {T Q D R x : Nat} (h : T = Q * D + R) : x + 10 * T = (0 + 10 * Q) * D + (x + 10 * R) := by
  rw [h, Nat.zero_add, Nat.mul_add, ← Nat.mul_assoc]; omega

theorem div_more {T o Q D R : Nat} (h : T = (o + 10 * Q) * D + R) (hle : D ≤ R) : T = (o + 1 + 10 * Q) * D + (R - D) := by
  rw [h, show o + 1 + 10 * Q = (o + 10 * Q) + 1 by omega, Nat.add_mul (o + 10 * Q) 1, Nat.one_mul]
  omega

theorem div_less {T o Q D R S x : Nat} (h : x + 10 * T = (o + 10 * Q) * D + R) (hT : T = Q * D + S) (hS : S < D) (hx : x < 10) (hle : D ≤ R) : o < 9 := by
  rcases Nat.lt_or_ge o 9 with h9 | h9
  · exact h9
  · exfalso
    rw [hT] at h
    have h1 : 9 * D ≤ o * D := Nat.mul_le_mul_right _ h9
    rw [Nat.add_mul, Nat.mul_add, ← Nat.mul_assoc] at h
    omega

def RDvPost (X D : Nat) (w : World) (e : Ending) (w' : World) : Prop :=
  ∃ po lo co out pr lr cr, e = .returned (.tuple #[.slice po lo co, .slice pr lr cr]) ∧ lo ≤ co ∧ co ≤ maxLen ∧ At .i64 w' po lo out ∧ (∀ j, j < lo → out j < 10) ∧ V 10 out 0 lo = X / D ∧ IsRest w' w.heap.size pr lr cr (X % D) ∧ (∀ a, po = some a → w.heap.size ≤ a.block) ∧ w.grownBy w' none

theorem rest_len {w : World} {g : Nat} {p : Option Addr} {l c R K : Nat} (h : IsRest w g p l c R) (hR : R < 10 ^ K) : l ≤ K := by
  obtain ⟨_, _, _, f, _, _, ht, hv⟩ := z_open h.1
  refine z_len ht ?_
  rw [hv]
  simpa using hR

theorem field1 (s : Int) (p : Option Addr) (n c : Nat) (w : World) : (Instr.field 31 (.agg #[.int .i64 s, .slice p n c]) 1).run Try.prog w = .ok (.slice p n c) w := by kernel_rfl

set_option maxRecDepth 100000 in
set_option maxHeartbeats 8000000 in
theorem rdivide_c (pa pb : Option Addr) (n m ca cb : Nat) (f fb : Nat → Nat) (w : World) (ha : At .i64 w pa n f) (hb : At .i64 w pb m fb) (hf : ∀ j, j < n → f j < 10) (hfb : ∀ j, j < m → fb j < 10) (bt : m = 0 ∨ fb (m - 1) ≠ 0) (hm0 : 0 < m) (hn : n ≤ 500) (hm : m ≤ 500) :
    Calls Try.prog 55 #[.slice pa n ca, .slice pb m cb] w (RDvPost (V 10 f 0 n) (V 10 fb 0 m) w) := by
  have hD0 : 0 < V 10 fb 0 m := by have := (v10_pos bt).1 hm0; omega
  have hDlt : V 10 fb 0 m < 10 ^ m := V_lt (fun j hj => by rw [Nat.zero_add]; exact hfb j hj)
  have hmk : ∀ w, (Instr.makeSlice 29 (.int .i64 (n : Int)) (.int .i64 (n : Int))).run Try.prog w = .ok (.slice (some ⟨w.heap.size, 0, none⟩) n n) (w.alloc (.cells (madeCells #[.int .i64 0] n) 3)) := fun w => makeI_run n (by omega) w
  obtain ⟨D, hD⟩ : ∃ D, V 10 fb 0 m = D := ⟨_, rfl⟩
  have HA := Lib.hid ha; have HB := Lib.hid hb; have HF := Lib.hid hf; have HFB := Lib.hid hfb; have HBT := Lib.hid bt
  rw [hD] at hD0 hDlt
  rw [hD]
  have HD := Lib.hid hD; have HDL := Lib.hid hDlt
  have HBM := Lib.hid (BlkI_made w n 3)
  clear ha hb hf hfb bt hD hDlt
  have hfd := field1
  go_enter Try.func55, Try.ntmps55
  go_wp2_with fail
  clear hmk
  go_loopw [7, 8] (fun rest i wr => ∃ (q : Nat) (out : Nat → Nat) (pr : Option Addr) (lr cr R : Nat), q ≤ n ∧ i = .int .i64 ((q : Int) - 1) ∧ rest = .slice pr lr cr ∧ Hid (Blk .i64 wr w.heap.size n out) ∧ Hid (∀ j, j < q → out j = 0) ∧ Hid (∀ j, out j < 10) ∧ Hid (IsRest wr w.heap.size pr lr cr R) ∧ Hid (R < D) ∧ Hid (V 10 f q (n - q) = V 10 out q (n - q) * D + R) ∧ Hid (w.grownBy wr none)) (fun _ i _ => (intOf i + 1).toNat)
  case atStart => exact ⟨n, fun _ => 0, none, 0, 0, 0, Nat.le_refl _, rfl, rfl, HBM, (fun _ _ => rfl), (fun _ => by show 0 < 10; omega), rest_zero _ _, hD0, by show _ = _; rw [Nat.sub_self]; simp [V], World.grownBy_alloc _ _ none⟩
  case round =>
    clear HBM
    obtain ⟨q, out, pr, lr, cr, R, hq, rfl, rfl, HO, HZ, HDG, HR, HRD, HV, HG⟩ := hrel
    by_cases hlt : 0 < q
    · obtain ⟨ga, oa, rfl, hga, hcA⟩ : ∃ g o, pa = some ⟨g, o, none⟩ ∧ g < w.heap.size ∧ ∀ j, j < n → w.cell? ⟨g, o + j, none⟩ = some (.int .i64 (f j)) := by
        rcases HA.out with h | h
        · omega
        · exact h
      have a0 := HG.out.cell (hcA (q - 1) (by omega)) (by simp)
      have hx10 := HF.out (q - 1) (by omega)
      have hi0 : (0 : Int) ≤ (q : Int) - 1 := by omega
      obtain ⟨x, hx⟩ : ∃ x, f (q - 1) = x := ⟨_, rfl⟩
      rw [hx] at a0 hx10
      have hfront : V 10 f (q - 1) (n - q + 1) = x + 10 * V 10 f q (n - q) := by
        rw [V_front, hx, show q - 1 + 1 = q by omega]
      have HFR := Lib.hid hfront
      have hll := rest_len HR.out (Nat.lt_trans HRD.out HDL.out)
      obtain ⟨hsr, hlc, hcm, h, hat, hdg, htop, hvr⟩ := z_open HR.out.1
      have hvr' : V 10 h 0 lr = R := by rw [hvr]; simp
      have HHD := Lib.hid hdg; have HVR := Lib.hid hvr'
      have hsz1 : w.heap.size + 1 ≤ wr.heap.size := HO.out.lt
      have HX10 := Lib.hid hx10
      have HHAT := Lib.hid hat; have HHZ := Lib.hid HR.out.2.2
      clear hcA hx hfront hat hdg htop hvr hvr' hsr hlc hcm
      go_wp2_with (at_builtin; go_must (refine wpList_appR rfl _ _ rfl (w.heap.size + 1) _ x rfl lr cr pr h rfl rfl HHAT.out HHZ.out (by omega) hsz1 ?_))
      intro v4 w4 hO4 hG4
      obtain ⟨g4, c4, rfl, hb4, hs4, hn4, hm4⟩ : ∃ g c, v4 = .slice (some ⟨g, 0, none⟩) (lr + 1) c ∧ w.heap.size + 1 ≤ g ∧ g < w4.heap.size ∧ lr + 1 ≤ c ∧ c ≤ maxLen := by
        rcases hO4.shape with ⟨_, e⟩ | e
        · omega
        · exact e
      have hd4 : ∀ j, j < lr + 1 → (fun j => if j = 0 then x else h (j - 1)) j < 10 := by
        intro j hj
        show (if j = 0 then x else h (j - 1)) < 10
        by_cases e : j = 0
        · rw [if_pos e]; exact HX10.out
        · rw [if_neg e]; exact HHD.out _ (by omega)
      have HM := Lib.hid (made2_c 1 (some ⟨g4, 0, none⟩) (lr + 1) c4 _ w4 (by omega) (fun h => by omega) hn4 hm4 hO4.at.2 hd4)
      rw [put_front, HVR.out, Int.one_mul] at HM
      have HG4 := Lib.hid hG4
      clear hO4 hG4 hd4 hs4 hn4 hm4
      go_wp2_with (go_at_call 42; go_must (refine HM.out.mono ?_); rintro e w5 ⟨s5, p5, n5, c5, rfl, hz5, hg5, h51, h52⟩; have HR5 := Lib.hid (rest_of (g := w.heap.size) hz5 h51 h52 (fun a ha => by injection ha with ha; subst ha; exact hb4)); have HG5 := Lib.hid (gb_trans HG4.out hg5); clear hz5 hg5 h51 h52)
      have HO5 := Lib.hid (HO.out.kept HG5.out (by simp)); have HGW5 := Lib.hid (gb_trans HG.out HG5.out)
      have hst5 : V 10 f (q - 1) (n - q + 1) = (out (q - 1) + 10 * V 10 out q (n - q)) * D + (x + 10 * R) := by
        rw [HFR.out, HZ.out (q - 1) (by omega)]; exact div_step HV.out
      have HST5 := Lib.hid hst5
      have hRx : x + 10 * R < 10 * D := by have := HRD.out; have := HX10.out; omega
      have HRX := Lib.hid hRx
      clear hst5 hRx HM HHD HVR HHAT HHZ HG4 HG5
      go_loopg [7] (x + 10 * R) (fun gg rest wr5 => ∃ (R' : Nat) (out' : Nat → Nat) (pr : Option Addr) (lr cr : Nat), gg = R' ∧ rest = .slice pr lr cr ∧ R' < 10 * D ∧ Hid (Blk .i64 wr5 w.heap.size n out') ∧ Hid (∀ j, j < q - 1 → out' j = 0) ∧ Hid (∀ j, out' j < 10) ∧ Hid (IsRest wr5 w.heap.size pr lr cr R') ∧ Hid (V 10 f (q - 1) (n - q + 1) = (out' (q - 1) + 10 * V 10 out' q (n - q)) * D + R') ∧ Hid (V 10 out' q (n - q) = V 10 out q (n - q)) ∧ Hid (w.grownBy wr5 none))
      case atStart => exact ⟨_, out, p5, n5, c5, rfl, rfl, HRX.out, HO5, (fun j hj => HZ.out j (by omega)), HDG, HR5, HST5, rfl, HGW5⟩
      case round =>
        clear HO5 HR5 HST5 HRX HGW5
        obtain ⟨R', out', pr', lr', cr', hgg, rfl, h10, HO', HZ', HDG', HR', HV', HQ', HGW'⟩ := hrel
        obtain rfl : R' = _ := hgg.symm
        have hl' := rest_len (K := m + 1) HR'.out (Nat.lt_of_lt_of_le h10 (by rw [Nat.pow_succ, Nat.mul_comm 10]; exact Nat.mul_le_mul_right _ (Nat.le_of_lt HDL.out)))
        obtain ⟨hsr, hlc, hcm, h', hat, hdg, htop, hvr⟩ := z_open HR'.out.1
        have hvr' : V 10 h' 0 lr' = R' := by rw [hvr]; simp
        have HC := Lib.hid (rcompare_c pr' pb lr' m cr' cb h' fb _ hat (HB.out.grown HGW'.out (by simp)) hdg HFB.out htop HBT.out (by omega) (by omega))
        have HHD := Lib.hid hdg; have HVR := Lib.hid hvr'; have HHT := Lib.hid htop; have HHAT := Lib.hid hat
        have hsz5 := HO'.out.lt
        clear hat hdg htop hvr hvr' hsr hlc hcm
        by_cases hle : D ≤ R'
        · obtain ⟨cc, hcc, hc0, -⟩ := cmp_ge (A := (V 10 h' 0 lr' : Nat)) (B := (V 10 fb 0 m : Nat)) (by rw [HVR.out, HD.out]; omega)
          rw [hcc] at HC
          clear hcc
          go_wp2_with fail
          refine HC.out.mono ?_
          rintro e w6 ⟨rfl, g6⟩
          have HM6 := Lib.hid (rminus_c pr' pb lr' m cr' cb h' fb w6 (HHAT.out.grown g6 (by simp)) (HB.out.grown (gb_trans HGW'.out g6) (by simp)) HHD.out HFB.out (by omega) (by omega) HBT.out (by rw [HVR.out, HD.out]; exact hle))
          have HG6 := Lib.hid g6
          clear g6 HC
          go_wp2_with fail
          refine HM6.out.mono ?_
          rintro e w7 ⟨p7, l7, c7, h7, rfl, q1, q2, q3, q4, q5, g7, q6⟩
          have HM7 := Lib.hid (made2_c 1 p7 l7 c7 h7 w7 (by omega) (fun h => by omega) q1 q2 q3 q4)
          rw [q5, HVR.out, HD.out, Int.one_mul] at HM7
          have HG7 := Lib.hid (gb_trans HG6.out g7)
          have Q6 := Lib.hid (fun a ha => Nat.lt_of_lt_of_le (Nat.lt_of_lt_of_le hsz5 HG6.out.size) (q6 a ha))
          clear q1 q2 q3 q4 q5 g7 q6 HM6
          go_wp2_with fail
          refine HM7.out.mono ?_
          rintro e w8 ⟨s8, p8, n8, c8, rfl, hz8, g8, h81, h82⟩
          have HG8 := Lib.hid (gb_trans HG7.out g8)
          have HR8 := Lib.hid (rest_of (g := w.heap.size) hz8 h81 h82 Q6.out)
          have HO8 := Lib.hid (HO'.out.kept HG8.out (by simp))
          have r0 := HO8.out.cell (j := q - 1) (by omega)
          have r1 := HO8.out.free (q - 1)
          have ho9 := div_less (o := out' (q - 1)) (Q := V 10 out q (n - q)) ((HFR.out.symm.trans HV'.out).trans (by rw [HQ'.out])) HV.out HRD.out HX10.out hle
          obtain ⟨u, hu⟩ : ∃ u, out' (q - 1) = u := ⟨_, rfl⟩
          rw [hu] at r0 ho9
          have hb2 : Blk .i64 (w8.setCell ⟨w.heap.size, q - 1, none⟩ (.int .i64 ((u : Int) + 1))) w.heap.size n (upd out' (q - 1) (u + 1)) := by
            have := HO8.out.set (j := q - 1) (u + 1)
            rwa [show ((u + 1 : Nat) : Int) = (u : Int) + 1 by omega] at this
          have hgs : w8.grownBy (w8.setCell ⟨w.heap.size, q - 1, none⟩ (.int .i64 ((u : Int) + 1))) (some w.heap.size) := gb_set (gb_refl _ _) _
          have hr2 := HR8.out.off hgs
          have hz2 : ∀ j, j < q - 1 → upd out' (q - 1) (u + 1) j = 0 := fun j hj => by rw [upd_ne (by omega)]; exact HZ'.out j hj
          have hd2 : ∀ j, upd out' (q - 1) (u + 1) j < 10 := by
            intro j
            by_cases e : j = q - 1
            · subst e; rw [upd_at]; omega
            · rw [upd_ne e]; exact HDG'.out j
          have hv2 : V 10 f (q - 1) (n - q + 1) = (upd out' (q - 1) (u + 1) (q - 1) + 10 * V 10 (upd out' (q - 1) (u + 1)) q (n - q)) * D + (R' - D) := by
            rw [upd_at, V_upd_out (by omega)]
            have := HV'.out
            rw [hu] at this
            exact div_more this hle
          have hq2 : V 10 (upd out' (q - 1) (u + 1)) q (n - q) = V 10 out q (n - q) := by rw [V_upd_out (by omega)]; exact HQ'.out
          have hgw2 : w.grownBy (w8.setCell ⟨w.heap.size, q - 1, none⟩ (.int .i64 ((u : Int) + 1))) none := below_gb (gb_new (gb_below (gb_trans HGW'.out HG8.out)) (Nat.le_refl _) hgs)
          have B2 := Lib.hid hb2; have R2 := Lib.hid hr2; have Z2 := Lib.hid hz2; have D2 := Lib.hid hd2; have V2 := Lib.hid hv2; have Q2 := Lib.hid hq2; have G2 := Lib.hid hgw2
          clear hb2 hgs hr2 hz2 hd2 hv2 hq2 hgw2 hz8 g8 h81 h82 hu HM7 HV' HQ' HDG' HZ' HO' HR'
          go_wp2_with fail
          go_roundg (R' - D)
          case measure => omega
          case rel => exact ⟨R' - D, _, p8, n8, c8, rfl, rfl, by omega, B2, Z2, D2, R2, V2, Q2, G2⟩
        · have hcc := cmp_lt (X := (V 10 h' 0 lr' : Nat)) (Y := (V 10 fb 0 m : Nat)) (by rw [HVR.out, HD.out]; omega)
          rw [hcc] at HC
          clear hcc
          go_wp2_with fail
          refine HC.out.mono ?_
          rintro e w6 ⟨rfl, g6⟩
          have HO6 := Lib.hid (HO'.out.kept g6 (by simp)); have HR6 := Lib.hid (HR'.out.kept g6); have HG6 := Lib.hid (gb_trans HGW'.out g6)
          have hv6 : V 10 f (q - 1) (n - (q - 1)) = V 10 out' (q - 1) (n - (q - 1)) * D + R' := by
            rw [show n - (q - 1) = n - q + 1 by omega, HV'.out, V_front, show q - 1 + 1 = q by omega]
          have HV6 := Lib.hid hv6
          have HRD6 := Lib.hid (show R' < D by omega)
          clear g6 hv6 HC HV' HQ' HO' HR' HHD HVR HHT HHAT
          go_wp2_with fail
          go_roundw
          case rel => exact ⟨q - 1, out', pr', lr', cr', R', by omega, by go_num, rfl, HO6, HZ', HDG', HR6, HRD6, HV6, HG6⟩
          case measure => simp [intOf]; omega
    · obtain rfl : q = 0 := by omega
      have hv0 := HV.out
      rw [Nat.sub_zero] at hv0
      have hdm : V 10 out 0 n = V 10 f 0 n / D ∧ R = V 10 f 0 n % D := by
        rw [hv0]
        refine ⟨?_, ?_⟩
        · rw [Nat.mul_comm, Nat.mul_add_div hD0, Nat.div_eq_of_lt HRD.out, Nat.add_zero]
        · rw [Nat.mul_comm, Nat.mul_add_mod, Nat.mod_eq_of_lt HRD.out]
      have hfin : RDvPost (V 10 f 0 n) D w (.returned (.tuple #[.slice (some ⟨w.heap.size, 0, none⟩) n n, .slice pr lr cr])) wr :=
        ⟨_, n, n, out, pr, lr, cr, rfl, Nat.le_refl _, by unfold maxLen; omega, HO.out.at0, (fun j _ => HDG.out j), hdm.1, by rw [← hdm.2]; exact HR.out, (fun a ha => by injection ha with ha; subst ha; exact Nat.le_refl _), HG.out⟩
      have HFIN := Lib.hid hfin
      clear hfin hdm hv0
      go_wp2_with fail
      exact bodyPost_ret (v := .tuple #[.slice (some ⟨w.heap.size, 0, none⟩) n n, .slice pr lr cr]) (by simp [results, Try.results55, go_sem]) rfl HFIN.out

def FromPost (Z : Int) (w : World) (e : Ending) (w' : World) : Prop :=
  ∃ s p n c, e = .returned (.agg #[.int .i64 s, .slice p n c]) ∧ IsZ w' (.agg #[.int .i64 s, .slice p n c]) Z ∧ w.grownBy w' none ∧ (0 < n → ∃ a, p = some a ∧ w.heap.size ≤ a.block)

set_option maxRecDepth 100000 in
set_option maxHeartbeats 4000000 in
theorem RFrom_c (z : Int) (hz : z = 1 ∨ z = -1) (w : World) : Calls Try.prog 56 #[.int .i64 z] w (FromPost z w) := by
  have hg1 := World.grownBy_alloc w (.cells #[.int .i64 0, .slice none 0 0] 31) none
  have HB := Lib.hid (top1 w (.cells #[.int .i64 0, .slice none 0 0] 31))
  have HG1 := Lib.hid hg1
  have hsz : (w.alloc (.cells #[.int .i64 0, .slice none 0 0] 31)).heap.size = w.heap.size + 1 := by simp
  have hd : ∀ j, j < 1 → upd (fun _ => 0) 0 1 j < 10 := fun j hj => by
    obtain rfl : j = 0 := by omega
    rw [upd_at]; omega
  have hv : V 10 (upd (fun _ => 0) 0 1) 0 1 = 1 := by rw [V_succ, V_zero, Nat.zero_add, upd_at, Nat.pow_zero]
  have HD := Lib.hid hd; have HV := Lib.hid hv
  have HSZ := Lib.hid hsz
  clear hd hv hg1 hsz
  have hsgn : z = 1 ∨ z = -1 := hz
  rcases hz with rfl | rfl
  · go_enter Try.func56, Try.ntmps56
    go_wp2_with fail
    generalize w.alloc (.cells #[.int .i64 0, .slice none 0 0] 31) = W at *
    go_loopw [0, 4] (fun t v wr => (t = .int .i64 1 ∧ Hid (Own .i64 3 W (w.heap.size + 1) v 0 (fun _ => 0)) ∧ wr = W) ∨ (t = .int .i64 0 ∧ Hid (Own .i64 3 wr (w.heap.size + 1) v 1 (upd (fun _ => 0) 0 1)) ∧ Hid (W.grownBy wr none))) (fun t _ _ => (intOf t).toNat)
    case atStart => exact .inl ⟨rfl, Own.nil, rfl⟩
    case round =>
      rcases hrel with ⟨rfl, HN, rfl⟩ | ⟨rfl, HO, HG⟩
      · go_wp2_with (at_builtin; refine wpList_app1 (k := .i64) (t := 29) (e := 3) (bytes := 8) Try.underlying29 infoI (by omega) rfl _ _ rfl (w.heap.size + 1) u4 0 (fun _ => 0) _ 1 (by omega) rfl HN.out rfl (by omega) (Nat.le_of_eq HSZ.out.symm) ?_)
        intro v' w' hO' hG'
        have HO' := Lib.hid hO'; have HG2 := Lib.hid (gb_own (gb_refl wr none) HN.out (Nat.le_of_eq HSZ.out) hG')
        clear hO' hG'
        go_wp2_with fail
        go_roundw
        case rel => exact .inr ⟨rfl, HO', HG2.out⟩
        case measure => simp [intOf]
      · obtain ⟨p, cap, rfl, hmc, hcm⟩ : ∃ p cap, u4 = .slice p 1 cap ∧ 1 ≤ cap ∧ cap ≤ maxLen := by
          rcases HO.out.shape with ⟨_, h⟩ | ⟨g, cap, h1, _, _, hnc, hcm⟩
          · omega
          · exact ⟨_, _, h1, hnc, hcm⟩
        have HM := Lib.hid (made_c 1 p 1 cap _ wr (by omega) (fun h => by omega) hmc hcm HO.out.at.2 HD.out)
        rw [HV.out] at HM
        have HFR := Lib.hid HO.out.far
        have HZB := Lib.hid ((HG.out.block _ (Array.getElem?_eq_some_iff.1 HB.out).1 (by simp)).trans HB.out)
        have HGW := Lib.hid (gb_trans HG1.out HG.out)
        clear hmc hcm HO
        go_wp2_with (go_at_call 42; refine HM.out.mono ?_; rintro e w5 ⟨s5, p5, n5, c5, rfl, hx, hg, hp⟩; have HX := Lib.hid hx; have HG5 := Lib.hid hg; have HP := Lib.hid hp; obtain ⟨z0, z1, z2⟩ := zcells_of ((hg.block _ (Array.getElem?_eq_some_iff.1 HZB.out).1 (by simp)).trans HZB.out); clear hx hg hp)
        obtain ⟨k0, k1, k2, k3⟩ := z_ret HZB.out HG5.out HX.out HGW.out (Nat.le_refl _) rfl
        exact bodyPost_ret (v := .agg #[.int .i64 s5, .slice p5 n5 c5]) (by simp [results, Try.results56, go_sem, k2, k3]) rfl ⟨_, _, _, _, rfl, by simpa using k0, k1, fun h => by
          obtain ⟨a, ha, -⟩ := z_some k0 h
          refine ⟨a, ha, Nat.le_of_succ_le (HFR.out a.block ?_)⟩
          rw [← HP.out h, ha]; rfl⟩
  · go_enter Try.func56, Try.ntmps56
    go_wp2_with fail
    generalize w.alloc (.cells #[.int .i64 0, .slice none 0 0] 31) = W at *
    go_loopw [0, 4] (fun t v wr => (t = .int .i64 1 ∧ Hid (Own .i64 3 W (w.heap.size + 1) v 0 (fun _ => 0)) ∧ wr = W) ∨ (t = .int .i64 0 ∧ Hid (Own .i64 3 wr (w.heap.size + 1) v 1 (upd (fun _ => 0) 0 1)) ∧ Hid (W.grownBy wr none))) (fun t _ _ => (intOf t).toNat)
    case atStart => exact .inl ⟨rfl, Own.nil, rfl⟩
    case round =>
      rcases hrel with ⟨rfl, HN, rfl⟩ | ⟨rfl, HO, HG⟩
      · go_wp2_with (at_builtin; refine wpList_app1 (k := .i64) (t := 29) (e := 3) (bytes := 8) Try.underlying29 infoI (by omega) rfl _ _ rfl (w.heap.size + 1) u4 0 (fun _ => 0) _ 1 (by omega) rfl HN.out rfl (by omega) (Nat.le_of_eq HSZ.out.symm) ?_)
        intro v' w' hO' hG'
        have HO' := Lib.hid hO'; have HG2 := Lib.hid (gb_own (gb_refl wr none) HN.out (Nat.le_of_eq HSZ.out) hG')
        clear hO' hG'
        go_wp2_with fail
        go_roundw
        case rel => exact .inr ⟨rfl, HO', HG2.out⟩
        case measure => simp [intOf]
      · obtain ⟨p, cap, rfl, hmc, hcm⟩ : ∃ p cap, u4 = .slice p 1 cap ∧ 1 ≤ cap ∧ cap ≤ maxLen := by
          rcases HO.out.shape with ⟨_, h⟩ | ⟨g, cap, h1, _, _, hnc, hcm⟩
          · omega
          · exact ⟨_, _, h1, hnc, hcm⟩
        have HM := Lib.hid (made_c (-1) p 1 cap _ wr (by omega) (fun h => by omega) hmc hcm HO.out.at.2 HD.out)
        rw [HV.out] at HM
        have HFR := Lib.hid HO.out.far
        have HZB := Lib.hid ((HG.out.block _ (Array.getElem?_eq_some_iff.1 HB.out).1 (by simp)).trans HB.out)
        have HGW := Lib.hid (gb_trans HG1.out HG.out)
        clear hmc hcm HO
        go_wp2_with (go_at_call 42; refine HM.out.mono ?_; rintro e w5 ⟨s5, p5, n5, c5, rfl, hx, hg, hp⟩; have HX := Lib.hid hx; have HG5 := Lib.hid hg; have HP := Lib.hid hp; obtain ⟨z0, z1, z2⟩ := zcells_of ((hg.block _ (Array.getElem?_eq_some_iff.1 HZB.out).1 (by simp)).trans HZB.out); clear hx hg hp)
        obtain ⟨k0, k1, k2, k3⟩ := z_ret HZB.out HG5.out HX.out HGW.out (Nat.le_refl _) rfl
        exact bodyPost_ret (v := .agg #[.int .i64 s5, .slice p5 n5 c5]) (by simp [results, Try.results56, go_sem, k2, k3]) rfl ⟨_, _, _, _, rfl, by simpa using k0, k1, fun h => by
          obtain ⟨a, ha, -⟩ := z_some k0 h
          refine ⟨a, ha, Nat.le_of_succ_le (HFR.out a.block ?_)⟩
          rw [← HP.out h, ha]; rfl⟩

theorem sgn_pos {A : Int} (h : 0 ≤ A) : A = sgn false A.natAbs := by simp [sgn]; omega
theorem sgn_neg' {A : Int} (h : A < 0) : A = sgn true A.natAbs := by simp [sgn]; omega

/-- Quotient and rest out of those of the absolute values. -/
theorem rdm {A B : Int} (hB : B ≠ 0) :
    ((0 ≤ A ∨ A.natAbs % B.natAbs = 0) → A / B = sg A * sg B * ((A.natAbs / B.natAbs : Nat) : Int) ∧ A % B = sg A * ((A.natAbs % B.natAbs : Nat) : Int)) ∧
    (A < 0 → A.natAbs % B.natAbs ≠ 0 → A / B = sg A * sg B * ((A.natAbs / B.natAbs : Nat) : Int) + -sg B ∧ A % B = sg A * ((A.natAbs % B.natAbs : Nat) : Int) + (B.natAbs : Int)) := by
  obtain ⟨s2, eB, sB⟩ : ∃ s2, B = sgn s2 B.natAbs ∧ sg B = (if s2 then -1 else 1) := by
    rcases Int.lt_or_gt_of_ne hB with h | h
    · exact ⟨true, sgn_neg' h, by unfold sg; rw [if_pos h]; rfl⟩
    · exact ⟨false, sgn_pos (by omega), by unfold sg; rw [if_neg (by omega), if_neg hB]; rfl⟩
  have hb : B.natAbs ≠ 0 := by omega
  have hlt : A.natAbs % B.natAbs < B.natAbs := Nat.mod_lt _ (by omega)
  constructor
  · intro h
    by_cases hA : A < 0
    · have hr0 : A.natAbs % B.natAbs = 0 := by omega
      have u := dm_neg0 s2 A.natAbs B.natAbs hb hr0
      rw [← sgn_neg' hA, ← eB, hr0] at u
      have sA : sg A = -1 := by unfold sg; rw [if_pos hA]
      rw [u.1, u.2, sA, sB, hr0]
      cases s2 <;> simp [sgn]
    · have u := dm_nonneg s2 A.natAbs B.natAbs hb
      rw [← sgn_pos (by omega : 0 ≤ A), ← eB] at u
      by_cases hA0 : A = 0
      · subst hA0
        simp [sg]
      · have sA : sg A = 1 := by unfold sg; rw [if_neg hA, if_neg hA0]
        rw [u.1, u.2, sA, sB]
        cases s2 <;> simp [sgn]
  · intro hA hr0
    have u := dm_neg1 s2 A.natAbs B.natAbs hb hr0
    rw [← sgn_neg' hA, ← eB] at u
    have sA : sg A = -1 := by unfold sg; rw [if_pos hA]
    rw [u.1, u.2, sA, sB]
    generalize A.natAbs / B.natAbs = k
    generalize A.natAbs % B.natAbs = r at *
    generalize B.natAbs = b at *
    constructor
    · cases s2 <;> simp [sgn] <;> omega
    · simp [sgn]; omega

theorem z_row {w w' : World} {s : Int} {p : Option Addr} {n c g : Nat} {Z : Int} (h : IsZ w (.agg #[.int .i64 s, .slice p n c]) Z) (hg : w.grownBy w' (some g)) (hp : 0 < n → ∃ a, p = some a ∧ a.block ≠ g) : IsZ w' (.agg #[.int .i64 s, .slice p n c]) Z := by
  obtain ⟨rfl, k1, k2, f, hat, hf, ht, hv⟩ := z_open h
  refine ⟨p, n, c, f, rfl, k1, k2, ?_, hf, ht, hv⟩
  by_cases hn : n = 0
  · exact .inl hn
  · obtain ⟨a, ha, hne⟩ := hp (by omega)
    exact hat.grown hg (fun b hb => by rw [ha] at hb; injection hb with hb; subst hb; simpa using hne)

/-- A box with a number of the document, whose digits lie in neither of two blocks. -/
def ZBox (B0 : Nat) (pb : Option Addr) (w : World) (q q8 q9 : Nat) (Z : Int) : Prop :=
  ∃ (s : Int) (p : Option Addr) (n c : Nat), w.heap[q]? = some (.cells #[.int .i64 s, .slice p n c] 31 (0, 0)) ∧ IsZ w (.agg #[.int .i64 s, .slice p n c]) Z ∧ (0 < n → ∃ a, p = some a ∧ a.block ≠ q8 ∧ a.block ≠ q9 ∧ (B0 ≤ a.block ∨ pb = some a))

theorem ZBox.kept {B0 : Nat} {pb : Option Addr} {w w' : World} {q q8 q9 : Nat} {Z : Int} (h : ZBox B0 pb w q q8 q9 Z) (hg : w.grownBy w' none) : ZBox B0 pb w' q q8 q9 Z := by
  obtain ⟨s, p, n, c, h1, h2, h3⟩ := h
  exact ⟨s, p, n, c, bx hg h1, h2.kept hg, h3⟩

/-- What DivMod's boxes hold. -/
def DSt (w : World) (sb : Int) (pb : Option Addr) (m cb q8 q9 : Nat) (Q R : Int) (wx : World) : Prop :=
  wx.heap[w.heap.size + 1 + 1]? = some (.cells #[.int .i64 0, .slice none 0 0] 31 (0, 0)) ∧ wx.heap[w.heap.size + 1 + 1 + 1]? = some (.cells #[.int .i64 0, .slice none 0 0] 31 (0, 0)) ∧
  wx.heap[w.heap.size + 1]? = some (.cells #[.int .i64 sb, .slice pb m cb] 31 (0, 0)) ∧ ZBox w.heap.size pb wx q8 q8 q9 Q ∧ ZBox w.heap.size pb wx q9 q8 q9 R ∧ w.grownBy wx none ∧ w.heap.size + 1 + 1 + 1 < q8 ∧ q8 < q9 ∧ q9 < wx.heap.size

theorem DSt.kept {w : World} {sb : Int} {pb : Option Addr} {m cb q8 q9 : Nat} {Q R : Int} {wx wy : World} (h : DSt w sb pb m cb q8 q9 Q R wx) (hg : wx.grownBy wy none) : DSt w sb pb m cb q8 q9 Q R wy := by
  obtain ⟨h1, h2, h3, h4, h5, h6, h7, h8, h9⟩ := h
  exact ⟨bx hg h1, bx hg h2, bx hg h3, h4.kept hg, h5.kept hg, gb_trans h6 hg, h7, h8, Nat.lt_of_lt_of_le h9 hg.size⟩

theorem DSt.set9 {w : World} {sb : Int} {pb : Option Addr} {m cb q8 q9 : Nat} {Q R R' : Int} {wx wy : World} {s : Int} {p : Option Addr} {n c : Nat} (h : DSt w sb pb m cb q8 q9 Q R wx) (hv : IsZ wx (.agg #[.int .i64 s, .slice p n c]) R') (hf : 0 < n → ∃ a, p = some a ∧ a.block ≠ q8 ∧ a.block ≠ q9 ∧ (w.heap.size ≤ a.block ∨ pb = some a))
    (hy : wy = (wx.setCell ⟨q9, 0, none⟩ (.int .i64 s)).setCell ⟨q9, 1, none⟩ (.slice p n c)) : DSt w sb pb m cb q8 q9 Q R' wy := by
  obtain ⟨h1, h2, h3, ⟨s1, p1, n1, c1, a1, a2, a3⟩, ⟨s2, p2, n2, c2, b1, b2, b3⟩, h6, h7, h8, h9⟩ := h
  obtain ⟨k1, k2, k3⟩ := put2 b1 hy
  refine ⟨(k2 _ (by omega)).trans h1, (k2 _ (by omega)).trans h2, (k2 _ (by omega)).trans h3, ⟨s1, p1, n1, c1, (k2 _ (by omega)).trans a1, z_row a2 k3 (fun hn => by obtain ⟨a, e1, e2, e3⟩ := a3 hn; exact ⟨a, e1, e3.1⟩), a3⟩, ⟨s, p, n, c, k1, z_row hv k3 (fun hn => by obtain ⟨a, e1, e2, e3⟩ := hf hn; exact ⟨a, e1, e3.1⟩), hf⟩, below_gb (gb_new (gb_below h6) (by omega) k3), h7, h8, Nat.lt_of_lt_of_le h9 k3.size⟩

theorem DSt.set8 {w : World} {sb : Int} {pb : Option Addr} {m cb q8 q9 : Nat} {Q R Q' : Int} {wx wy : World} {s : Int} {p : Option Addr} {n c : Nat} (h : DSt w sb pb m cb q8 q9 Q R wx) (hv : IsZ wx (.agg #[.int .i64 s, .slice p n c]) Q') (hf : 0 < n → ∃ a, p = some a ∧ a.block ≠ q8 ∧ a.block ≠ q9 ∧ (w.heap.size ≤ a.block ∨ pb = some a))
    (hy : wy = (wx.setCell ⟨q8, 0, none⟩ (.int .i64 s)).setCell ⟨q8, 1, none⟩ (.slice p n c)) : DSt w sb pb m cb q8 q9 Q' R wy := by
  obtain ⟨h1, h2, h3, ⟨s1, p1, n1, c1, a1, a2, a3⟩, ⟨s2, p2, n2, c2, b1, b2, b3⟩, h6, h7, h8, h9⟩ := h
  obtain ⟨k1, k2, k3⟩ := put2 a1 hy
  refine ⟨(k2 _ (by omega)).trans h1, (k2 _ (by omega)).trans h2, (k2 _ (by omega)).trans h3, ⟨s, p, n, c, k1, z_row hv k3 (fun hn => by obtain ⟨a, e1, e2, e3⟩ := hf hn; exact ⟨a, e1, e2⟩), hf⟩, ⟨s2, p2, n2, c2, (k2 _ (by omega)).trans b1, z_row b2 k3 (fun hn => by obtain ⟨a, e1, e2, e3⟩ := b3 hn; exact ⟨a, e1, e2⟩), b3⟩, below_gb (gb_new (gb_below h6) (by omega) k3), h7, h8, Nat.lt_of_lt_of_le h9 k3.size⟩

def RDmPost (pb : Option Addr) (A B : Int) (w : World) (e : Ending) (w' : World) : Prop :=
  ∃ s p n c s2 p2 n2 c2, e = .returned (.tuple #[.agg #[.int .i64 s, .slice p n c], .agg #[.int .i64 s2, .slice p2 n2 c2]]) ∧ IsZ w' (.agg #[.int .i64 s, .slice p n c]) (A / B) ∧ IsZ w' (.agg #[.int .i64 s2, .slice p2 n2 c2]) (A % B) ∧ w.grownBy w' none ∧ (0 < n2 → ∃ a, p2 = some a ∧ (w.heap.size ≤ a.block ∨ pb = some a))

/-- Two numbers handed back through the boxes that were made for them. -/
theorem z_ret2 {w W R : World} {r : Nat} {T : TypeId} {s s2 : Int} {p p2 : Option Addr} {n c n2 c2 : Nat} {X Y : Int} (hb : W.heap[r]? = some (.cells #[.int .i64 0, .slice none 0 0] T (0, 0))) (hb2 : W.heap[r + 1]? = some (.cells #[.int .i64 0, .slice none 0 0] T (0, 0)))
    (hx : IsZ W (.agg #[.int .i64 s, .slice p n c]) X) (hy : IsZ W (.agg #[.int .i64 s2, .slice p2 n2 c2]) Y) (hg : w.grownBy W none) (hr : w.heap.size ≤ r)
    (hR : R = (((W.setCell ⟨r, 0, none⟩ (.int .i64 s)).setCell ⟨r, 1, none⟩ (.slice p n c)).setCell ⟨r + 1, 0, none⟩ (.int .i64 s2)).setCell ⟨r + 1, 1, none⟩ (.slice p2 n2 c2)) :
    (IsZ R (.agg #[.int .i64 s, .slice p n c]) X ∧ IsZ R (.agg #[.int .i64 s2, .slice p2 n2 c2]) Y ∧ w.grownBy R none) ∧ (R.cell? ⟨r, 0, none⟩ = some (.int .i64 s) ∧ R.cell? ⟨r, 1, none⟩ = some (.slice p n c)) ∧ (R.cell? ⟨r + 1, 0, none⟩ = some (.int .i64 s2) ∧ R.cell? ⟨r + 1, 1, none⟩ = some (.slice p2 n2 c2)) := by
  obtain ⟨W1, h1⟩ : ∃ W1, W1 = (W.setCell ⟨r, 0, none⟩ (.int .i64 s)).setCell ⟨r, 1, none⟩ (.slice p n c) := ⟨_, rfl⟩
  have x1 := z_off (s0 := s) (p0 := p) (n0 := n) (c0 := c) hb hx
  have y1 := z_off (s0 := s) (p0 := p) (n0 := n) (c0 := c) hb hy
  rw [← h1] at hR x1 y1
  obtain ⟨k1, k2, k3⟩ := put2 hb h1
  have hb2 := (k2 _ (by omega)).trans hb2
  have x2 := z_off (s0 := s2) (p0 := p2) (n0 := n2) (c0 := c2) hb2 x1
  have y2 := z_off (s0 := s2) (p0 := p2) (n0 := n2) (c0 := c2) hb2 y1
  rw [← hR] at x2 y2
  obtain ⟨l1, l2, l3⟩ := put2 hb2 hR
  exact ⟨⟨x2, y2, below_gb (gb_new (gb_new (gb_below hg) hr k3) (by omega) l3)⟩, cells2 ((l2 _ (by omega)).trans k1), cells2 l1⟩

theorem z_ne {w : World} {s : Int} {p : Option Addr} {n c : Nat} {Z : Int} (h : IsZ w (.agg #[.int .i64 s, .slice p n c]) Z) (hz : Z ≠ 0) : 0 < n := by
  obtain ⟨-, -, -, f, -, -, h5, h6⟩ := z_open h
  exact (v10_pos h5).2 (by rw [h6]; omega)

theorem lt250 {s : Int} (h : s = 1 ∨ s = -1) : (-s).natAbs < 10 ^ 250 := by
  have h1 : 1 < 10 ^ 250 := by decide +kernel
  rcases h with rfl | rfl <;> exact h1

/-- Where the digits of a sum lie. -/
theorem sum_far {W : World} {B0 q8 q9 : Nat} {pb : Option Addr} {p11 p7 p10 : Option Addr} {n11 : Nat} {s11 : Int} {c11 : Nat} {Z : Int} {w' : World} (hz : IsZ W (.agg #[.int .i64 s11, .slice p11 n11 c11]) Z) (hf : 0 < n11 → (∃ a, p11 = some a ∧ w'.heap.size ≤ a.block) ∨ p11 = p7 ∨ p11 = p10) (hs : q9 < w'.heap.size) (h89 : q8 < q9) (hB : B0 ≤ w'.heap.size)
    (h7 : ∀ a, p7 = some a → a.block < q8 ∧ (B0 ≤ a.block ∨ pb = some a)) (h10 : ∀ a, p10 = some a → (a.block < q8 ∨ q9 < a.block) ∧ (B0 ≤ a.block ∨ pb = some a)) : 0 < n11 → ∃ a, p11 = some a ∧ a.block ≠ q8 ∧ a.block ≠ q9 ∧ (B0 ≤ a.block ∨ pb = some a) := by
  intro h
  obtain ⟨a, ha, -⟩ := z_some hz h
  refine ⟨a, ha, ?_⟩
  rcases hf h with ⟨b, hb, hlt⟩ | e | e
  · rw [ha] at hb; injection hb with hb; subst hb; exact ⟨by omega, by omega, .inl (by omega)⟩
  · obtain ⟨k1, k2⟩ := h7 a (e.symm.trans ha); exact ⟨by omega, by omega, k2⟩
  · obtain ⟨k1, k2⟩ := h10 a (e.symm.trans ha); exact ⟨by omega, by omega, k2⟩

set_option maxRecDepth 100000 in
set_option maxHeartbeats 8000000 in
theorem RDivMod_c (x : Value) (sb : Int) (pb : Option Addr) (m cb : Nat) (A B : Int) (w : World) (hx : IsZ w x A) (hy : IsZ w (.agg #[.int .i64 sb, .slice pb m cb]) B) (hA : A.natAbs < 10 ^ 120) (hB : B.natAbs < 10 ^ 120) (hB0 : B ≠ 0) : Calls Try.prog 31 #[x, .agg #[.int .i64 sb, .slice pb m cb]] w (RDmPost pb A B w) := by
  obtain ⟨sa, pa, n, ca, rfl, HX⟩ := z_parts hx
  have HY := hy
  obtain ⟨ea, hna, hca, f, fat, ff, ft, fv⟩ := z_open hx
  obtain ⟨eb, hmb, hcb, fb, bat, bf, bt, bv⟩ := z_open hy
  have hn := z_len ft (by rw [fv]; exact hA)
  have hm := z_len bt (by rw [bv]; exact hB)
  have hm0 : 0 < m := (v10_pos bt).2 (by rw [bv]; omega)
  obtain ⟨W, hW, b0, b1, b2, b3, gW⟩ := boxes4 w (.cells #[.int .i64 sa, .slice pa n ca] 31) (.cells #[.int .i64 sb, .slice pb m cb] 31) (.cells #[.int .i64 0, .slice none 0 0] 31) (.cells #[.int .i64 0, .slice none 0 0] 31)
  have hWs : W.heap.size = w.heap.size + 1 + 1 + 1 + 1 := by rw [hW]; simp
  have HDV := Lib.hid (rdivide_c pa pb n m ca cb f fb W (fat.grown gW (by simp)) (bat.grown gW (by simp)) ff bf bt hm0 (by omega) (by omega))
  rw [fv, bv] at HDV
  obtain ⟨rd1, rd2⟩ := rdm (A := A) (B := B) hB0
  have hw1 : IntKind.i64.wrap (sa * sb) = sg (A * B) := by
    rw [ea, eb, sg_times]
    rcases sg_range (A * B) with h | h | h <;> rw [h] <;> rfl
  have hpb : ∃ a, pb = some a ∧ a.block < w.heap.size := z_some hy hm0
  have HPB := Lib.hid hpb; have HW1 := Lib.hid hw1; have HR1 := Lib.hid rd1; have HR2 := Lib.hid rd2; have EA := Lib.hid ea; have EB := Lib.hid eb
  have HBB := Lib.hid (And.intro b0 (And.intro b1 (And.intro b2 b3))); have HGW := Lib.hid gW; have HWS := Lib.hid hWs
  have HAL := Lib.hid (fun _ : Unit => hA); have HBL := Lib.hid (fun _ : Unit => hB); have HB0 := Lib.hid (fun _ : Unit => hB0)
  have HYW := Lib.hid hy
  have BAT := Lib.hid bat; have BF := Lib.hid bf; have BV := Lib.hid bv
  have hmb2 := hmb; have hcb2 := hcb
  have HCB := Lib.hid hcb
  clear hx hy HX HY fat ff ft fv bat bf bt bv hA hB hB0 b0 b1 b2 b3 gW hWs rd1 rd2 hw1 hpb ea eb hca hcb hcb2
  go_enter Try.func31, Try.ntmps31
  go_wp2_with fail
  rw [← hW]
  refine HDV.out.mono ?_
  rintro e w5 ⟨po, lo, co, out, pr, lr, cr, rfl, q1, q2, q3, q4, q5, hR, q7, g5⟩
  have hsr := sg_range (A * B)
  have HM1 := Lib.hid (made2_c (sg (A * B)) po lo co out w5 hsr (fun h => by
    rw [q5]
    rcases Int.mul_eq_zero.1 (sg_zero h) with h0 | h0
    · rw [h0]; simp
    · exact absurd h0 (HB0.out ())) q1 q2 q3 q4)
  rw [q5] at HM1
  obtain ⟨x0, -, -⟩ := zcells_of (bx g5 HBB.out.1)
  obtain ⟨y0, -, -⟩ := zcells_of (bx g5 HBB.out.2.1)
  have HRR := Lib.hid hR; have HG5 := Lib.hid g5; have Q7 := Lib.hid q7
  have hw1 := HW1.out
  clear q1 q2 q3 q4 q5 hR q7 g5 hsr HDV
  go_wp2_with fail
  refine HM1.out.mono ?_
  rintro e w6 ⟨s6, p6, n6, c6, rfl, hz6, g6, hp6, hp60⟩
  have hg8 := World.grownBy_alloc w6 (.cells #[.int .i64 s6, .slice p6 n6 c6] 31) none
  have HG7 := Lib.hid (gb_trans HG5.out (gb_trans g6 hg8))
  have hrr := HRR.out.kept (gb_trans g6 hg8)
  obtain ⟨-, k1, k2, h, k3, k4, k5, k6⟩ := z_open hrr.1
  have k6' : V 10 h 0 lr = A.natAbs % B.natAbs := by rw [k6, Int.natAbs_natCast]
  have HM2 := Lib.hid (made_c sa pr lr cr h _ (by rw [EA.out]; exact sg_range A) (fun hs => by
    rw [k6']
    have := sg_zero (EA.out.symm.trans hs)
    rw [this]; simp) k1 k2 k3 k4)
  rw [k6'] at HM2
  obtain ⟨x0', -, -⟩ := zcells_of (bx HG7.out HBB.out.1)
  have T8 := Lib.hid (top1 w6 (.cells #[.int .i64 s6, .slice p6 n6 c6] 31))
  have HZ6 := Lib.hid hz6; have HP6 := Lib.hid hp6; have HP60 := Lib.hid hp60
  have hq8 : W.heap.size ≤ w6.heap.size := Nat.le_trans HG5.out.size g6.size
  have hpr : 0 < lr → ∃ a, pr = some a ∧ a.block < w6.heap.size ∧ w.heap.size ≤ a.block := fun hl => by
    obtain ⟨a, h1, h2⟩ := z_some (HRR.out.kept g6).1 hl
    obtain ⟨b, h3, h4⟩ := HRR.out.2.1 hl
    rw [h1] at h3; injection h3 with h3; subst h3
    exact ⟨a, h1, h2, by have := HWS.out; omega⟩
  have HPR := Lib.hid hpr
  have HLR := Lib.hid HRR.out.2.2
  clear k1 k2 k3 k4 k5 k6 k6' hz6 hp6 hp60 g6 hg8 hrr x0 y0 hw1 HM1 hpr
  go_wp2_with fail
  refine HM2.out.mono ?_
  rintro e w7 ⟨s7, p7, n7, c7, rfl, hz7, g7, hp7⟩
  have hg9 := World.grownBy_alloc w7 (.cells #[.int .i64 s7, .slice p7 n7 c7] 31) none
  have hgT := gb_trans HG7.out (gb_trans g7 hg9)
  have hq89 : w6.heap.size < w7.heap.size := by have := g7.size; simp at this; omega
  have hdst : DSt w sb pb m cb w6.heap.size w7.heap.size (sg (A * B) * ((A.natAbs / B.natAbs : Nat) : Int)) (sa * ((A.natAbs % B.natAbs : Nat) : Int)) (w7.alloc (.cells #[.int .i64 s7, .slice p7 n7 c7] 31)) := by
    refine ⟨bx hgT HBB.out.2.2.1, bx hgT HBB.out.2.2.2, bx hgT HBB.out.2.1, ⟨s6, p6, n6, c6, bx (gb_trans g7 hg9) T8.out, HZ6.out.kept (gb_trans (World.grownBy_alloc w6 _ none) (gb_trans g7 hg9)), fun hl => ?_⟩, ⟨s7, p7, n7, c7, top1 _ _, hz7.kept hg9, fun hl => ?_⟩, gb_trans HGW.out hgT, by have := HWS.out; omega, hq89, by simp⟩
    · obtain ⟨a, h1, h2⟩ := z_some HZ6.out hl
      exact ⟨a, h1, by omega, by omega, .inl (by have := Q7.out a ((HP6.out hl).symm.trans h1); have := HWS.out; omega)⟩
    · obtain ⟨a, h1, -⟩ := z_some hz7 hl
      have e := hp7 hl
      by_cases hl0 : lr = 0
      · rw [(HLR.out hl0).1] at e
        rw [e] at h1; cases h1
      · obtain ⟨b, h3, h4⟩ := HPR.out (by omega)
        rw [← e, h1] at h3
        injection h3 with h3
        subst h3
        exact ⟨a, h1, by omega, by omega, .inl h4.2⟩
  have HDS := Lib.hid hdst
  have HI6 := Lib.hid (HZ6.out.kept (gb_trans (World.grownBy_alloc w6 _ none) (gb_trans g7 hg9)))
  have HT6 := Lib.hid (bx (gb_trans g7 hg9) T8.out)
  have HI7 := Lib.hid (hz7.kept hg9)
  have HT7 := Lib.hid (top1 w7 (.cells #[.int .i64 s7, .slice p7 n7 c7] 31))
  have hf6 : ∀ a, p6 = some a → a.block < w6.heap.size ∧ w.heap.size ≤ a.block := fun a ha => by
    by_cases h0 : n6 = 0
    · rw [(HP60.out h0).1] at ha; cases ha
    · obtain ⟨b, h1, h2⟩ := z_some HZ6.out (by omega)
      rw [ha] at h1; injection h1 with h1; subst h1; exact ⟨h2, by have := Q7.out a ((HP6.out (by omega)).symm.trans ha); have := HWS.out; omega⟩
  have HF6 := Lib.hid hf6
  have hf7 : 0 < n7 → ∃ a, p7 = some a ∧ a.block < w6.heap.size ∧ w.heap.size ≤ a.block := fun hl => by
    obtain ⟨a, h1, -⟩ := z_some hz7 hl
    have e := hp7 hl
    by_cases hl0 : lr = 0
    · rw [(HLR.out hl0).1] at e
      rw [e] at h1; cases h1
    · obtain ⟨b, h3, h4⟩ := HPR.out (by omega)
      rw [← e, h1] at h3
      injection h3 with h3
      subst h3
      exact ⟨a, h1, h4⟩
  have HF7 := Lib.hid hf7
  have hs7 := (z_open hz7).1
  have hsg : (A < 0 ∧ A.natAbs % B.natAbs ≠ 0) ↔ s7 < 0 := by
    rw [hs7]
    constructor
    · rintro ⟨h1, h2⟩
      have h3 : sa = -1 := by rw [EA.out]; unfold sg; rw [if_pos h1]
      unfold sg; rw [if_pos (by rw [h3]; omega)]; omega
    · intro h1
      have h2 : sa * ((A.natAbs % B.natAbs : Nat) : Int) < 0 := by
        unfold sg at h1
        by_cases e : sa * ((A.natAbs % B.natAbs : Nat) : Int) < 0
        · exact e
        · rw [if_neg e] at h1; split at h1 <;> omega
      constructor
      · rcases Int.lt_trichotomy A 0 with h | h | h
        · exact h
        · rw [EA.out, h] at h2; simp [sg] at h2
        · have : sa = 1 := by rw [EA.out]; unfold sg; rw [if_neg (by omega), if_neg (by omega)]
          rw [this] at h2; omega
      · intro h0
        rw [h0] at h2; simp at h2
  have HSG := Lib.hid hsg
  clear hdst hsg hs7 hf6 hf7 hg9 hgT hz7 g7 hp7 HM2 HZ6 HP6 HPR HLR HRR HG5 HG7 T8 x0' hq8 Q7
  by_cases hneg : s7 < 0
  · have d1 : decide (s7 < 0) = true := decide_eq_true hneg
    obtain ⟨v1, v2⟩ := HR2.out (HSG.out.2 hneg).1 (HSG.out.2 hneg).2
    rw [sg_times] at v1
    rw [← EA.out] at v2
    have V1 := Lib.hid v1; have V2 := Lib.hid v2
    have hRb : (sa * ((A.natAbs % B.natAbs : Nat) : Int)).natAbs < 10 ^ 250 := by
      have h1 : A.natAbs % B.natAbs < B.natAbs := Nat.mod_lt _ (by have := HB0.out (); omega)
      have h2 := HBL.out ()
      have h3 : (sa * ((A.natAbs % B.natAbs : Nat) : Int)).natAbs ≤ A.natAbs % B.natAbs := by
        rw [Int.natAbs_mul, Int.natAbs_natCast, EA.out]
        have := sg_pm A
        have h4 : (sg A).natAbs ≤ 1 := by omega
        exact Nat.le_trans (Nat.mul_le_mul_right _ h4) (by omega)
      exact Nat.lt_of_le_of_lt h3 (Nat.lt_trans h1 (Nat.lt_of_lt_of_le h2 (Nat.pow_le_pow_right (by omega) (by omega))))
    have hQb : (sg (A * B) * ((A.natAbs / B.natAbs : Nat) : Int)).natAbs < 10 ^ 250 := by
      have h3 : (sg (A * B) * ((A.natAbs / B.natAbs : Nat) : Int)).natAbs ≤ A.natAbs := by
        rw [Int.natAbs_mul, Int.natAbs_natCast]
        have := sg_pm (A * B)
        have h4 : (sg (A * B)).natAbs ≤ 1 := by omega
        exact Nat.le_trans (Nat.mul_le_mul_right _ h4) (by rw [Nat.one_mul]; exact Nat.div_le_self _ _)
      exact Nat.lt_of_le_of_lt h3 (Nat.lt_of_lt_of_le (HAL.out ()) (Nat.pow_le_pow_right (by omega) (by omega)))
    have HRB := Lib.hid (fun _ : Unit => hRb); have HQB := Lib.hid (fun _ : Unit => hQb)
    have hn7 : 0 < n7 := by
      obtain ⟨e7, -, -, h, -, -, h5, h6⟩ := z_open HI7.out
      refine (v10_pos h5).2 ?_
      rw [h6]
      intro h0
      rw [Int.natAbs_eq_zero.1 h0] at e7
      rw [e7] at hneg
      simp [sg] at hneg
    clear v1 v2 hRb hQb hneg HSG HR1 HR2
    generalize hQ : sg (A * B) * ((A.natAbs / B.natAbs : Nat) : Int) = Q1 at *
    generalize hR : sa * ((A.natAbs % B.natAbs : Nat) : Int) = R1 at *
    go_wp2_with fail
    generalize w7.alloc (.cells #[.int .i64 s7, .slice p7 n7 c7] 31) = W8 at *
    generalize w6.heap.size = q8 at *
    generalize w7.heap.size = q9 at *
    have hl3 : q9 < W8.heap.size := HDS.out.2.2.2.2.2.2.2.2
    have hl1 : w.heap.size + 1 + 1 + 1 < q8 := HDS.out.2.2.2.2.2.2.1
    have HMB := Lib.hid (fun w' (hg : w.grownBy w' none) => made_c 1 pb m cb fb w' (by omega) (fun h => by omega) hmb2 HCB.out (BAT.out.grown hg (by simp)) BF.out)
    rw [BV.out] at HMB
    obtain ⟨yb0, yb1, -⟩ := zcells_of HDS.out.2.2.1
    obtain ⟨e0, e1, e2⟩ := zcells_of HT7.out
    have HGW8 := Lib.hid HDS.out.2.2.2.2.2.1
    go_cut [36] (fun t wx => Hid (DSt w sb pb m cb q8 q9 Q1 (A % B) wx) ∧ Hid (wx.heap[q8]? = some (.cells #[.int .i64 s6, .slice p6 n6 c6] 31 (0, 0))) ∧ Hid (IsZ wx (.agg #[.int .i64 s6, .slice p6 n6 c6]) Q1))
    case first =>
      have GG := Lib.hid (gb_refl W8 none)
      have hB250 : (1 * (B.natAbs : Int)).natAbs < 10 ^ 250 := by
        rw [Int.one_mul, Int.natAbs_natCast]
        exact Nat.lt_of_lt_of_le (HBL.out ()) (Nat.pow_le_pow_right (by omega) (by omega))
      have HB250 := Lib.hid (fun _ : Unit => hB250)
      clear hB250
      go_region_with (first
        | (go_at_call 42; go_must (refine (HMB.out _ (gb_trans HGW8.out (by repeat (first | with_reducible exact GG.out | with_reducible exact gb_refl _ _ | with_reducible refine gb_drew ?_)))).mono ?_); rintro e w9 ⟨s10, p10, n10, c10, rfl, hx10, hg10, hp10⟩; have GG2 := Lib.hid (gb_trans (show W8.grownBy _ none from (by repeat (first | with_reducible exact GG.out | with_reducible exact gb_refl _ _ | with_reducible refine gb_drew ?_))) hg10); have GG := GG2; have HX10 := Lib.hid hx10; have HP10 := Lib.hid hp10; have e0 := GG2.out.cell e0 (by simp); have e1 := GG2.out.cell e1 (by simp); clear hx10 hg10 hp10)
        | (go_at_call 22; go_must (refine (RAdd_c s7 s10 p7 p10 n7 n10 c7 c10 R1 _ _ (HI7.out.kept (by repeat (first | with_reducible exact GG.out | with_reducible exact gb_refl _ _ | with_reducible refine gb_drew ?_))) (HX10.out.kept (by repeat (first | with_reducible exact gb_refl _ _ | with_reducible refine gb_drew ?_))) (HRB.out ()) (HB250.out ())).mono ?_); rintro e w11 ⟨s11, p11, n11, c11, rfl, hx11, hg11, hf11⟩; have hgr := (show W8.grownBy _ none from (by repeat (first | with_reducible exact GG.out | with_reducible exact gb_refl _ _ | with_reducible refine gb_drew ?_))); have hfar := sum_far (q8 := q8) (q9 := q9) hx11 hf11 (Nat.lt_of_lt_of_le hl3 hgr.size) hq89 (B0 := w.heap.size) (pb := pb) (Nat.le_trans HGW8.out.size hgr.size) (fun a ha => by obtain ⟨fa, hfa1, hfa2⟩ := HF7.out hn7; rw [hfa1] at ha; injection ha with ha; subst ha; exact ⟨hfa2.1, .inl hfa2.2⟩) (fun a ha => by have e := HP10.out (z_ne HX10.out (by have := HB0.out (); omega)); obtain ⟨b, hb1, hb2⟩ := HPB.out; refine ⟨.inl ?_, .inr (e.symm.trans ha)⟩; rw [e, hb1] at ha; injection ha with ha; subst ha; omega); have HFR := Lib.hid hfar; have HX11 := Lib.hid hx11; have GG3 := Lib.hid (gb_trans hgr hg11); obtain ⟨t0, t1, t2⟩ := zcells_of (bx GG3.out HT7.out); clear hx11 hg11 hf11 hgr hfar))
      all_goals
        go_wp2
        go_meet
        have hx := HX11.out
        rw [Int.one_mul, ← V2.out] at hx
        have hset := DSt.set9 (HDS.out.kept GG3.out) hx HFR.out rfl
        have hrow := gb_set (j := 1) (gb_set (j := 0) (gb_refl w11 (some q9)) (.int .i64 s11)) (.slice p11 n11 c11)
        refine ⟨?_, ?_, ?_⟩
        · first | exact hset | exact hset.kept (gb_drew (gb_refl _ none))
        · first | exact (hrow.block q8 (Nat.lt_trans hq89 (Nat.lt_of_lt_of_le hl3 GG3.out.size)) (by simp; omega)).trans (bx GG3.out HT6.out) | exact bx (gb_drew (gb_refl _ none)) ((hrow.block q8 (Nat.lt_trans hq89 (Nat.lt_of_lt_of_le hl3 GG3.out.size)) (by simp; omega)).trans (bx GG3.out HT6.out))
        · have hi := z_row (HI6.out.kept GG3.out) hrow (fun h => by obtain ⟨a, h1, -⟩ := z_some HI6.out h; exact ⟨a, h1, by have := (HF6.out a h1).1; omega⟩)
          first | exact hi | exact hi.kept (gb_drew (gb_refl _ none))
    case rest =>
      obtain ⟨HD5, HT65, HI65⟩ := hcut
      clear e0 e1 e2 yb0 yb1 HT7 HI7 HF7 HDS HT6 HI6 HMB HGW8 hl3
      obtain ⟨W9, hW9⟩ : ∃ W9, W9 = wc := ⟨_, rfl⟩
      rw [← hW9] at HD5 HT65 HI65 ⊢
      clear hW9
      have hsb : sb = 1 ∨ sb = -1 := by
        rw [EB.out]
        rcases sg_range B with h | h | h
        · exact .inr h
        · exact absurd (sg_zero h) (HB0.out ())
        · exact .inl h
      have HFRM := Lib.hid (fun w' => RFrom_c (-sb) (by omega) w')
      have hb1 : -1 ≤ sb := by omega
      have hb2 : sb ≤ 1 := by omega
      have hwn : IntKind.i64.wrap (-sb) = -sb := IntWalk.i64_in _ (by omega)
      have HSB := Lib.hid hsb
      clear hsb
      have hl3 : q9 < W9.heap.size := HD5.out.2.2.2.2.2.2.2.2
      have HGW9 := Lib.hid HD5.out.2.2.2.2.2.1
      obtain ⟨yb0, -, -⟩ := zcells_of HD5.out.2.2.1
      obtain ⟨e0, e1, e2⟩ := zcells_of HT65.out
      go_wp2_with fail
      go_cut [42] (fun t wx => Hid (DSt w sb pb m cb q8 q9 (A / B) (A % B) wx))
      case first =>
        have GG := Lib.hid (gb_refl W9 none)
        have H250 := Lib.hid (fun _ : Unit => lt250 HSB.out)
        go_region_with (first
          | (go_at_call 56; go_must (refine (HFRM.out _).mono ?_); rintro e w10 ⟨s10, p10, n10, c10, rfl, hx10, hg10, hp10⟩; have GG2 := Lib.hid (gb_trans (show W9.grownBy _ none from (by repeat (first | with_reducible exact GG.out | with_reducible exact gb_refl _ _ | with_reducible refine gb_drew ?_))) hg10); have GG := GG2; have HX10 := Lib.hid hx10; have HP10 := Lib.hid (show ∀ a, p10 = some a → q9 < a.block from fun a ha => by obtain ⟨b, hb1, hb2⟩ := hp10 (z_ne hx10 (by have := HSB.out; omega)); rw [ha] at hb1; injection hb1 with hb1; subst hb1; exact Nat.lt_of_lt_of_le hl3 hb2); have e0 := GG2.out.cell e0 (by simp); have e1 := GG2.out.cell e1 (by simp); clear hx10 hg10 hp10)
          | (go_at_call 22; go_must (refine (RAdd_c s6 s10 p6 p10 n6 n10 c6 c10 Q1 (-sb) _ (HI65.out.kept (by repeat (first | with_reducible exact GG.out | with_reducible exact gb_refl _ _ | with_reducible refine gb_drew ?_))) (HX10.out.kept (by repeat (first | with_reducible exact gb_refl _ _ | with_reducible refine gb_drew ?_))) (HQB.out ()) (H250.out ())).mono ?_); rintro e w11 ⟨s11, p11, n11, c11, rfl, hx11, hg11, hf11⟩; have hgr := (show W9.grownBy _ none from (by repeat (first | with_reducible exact GG.out | with_reducible exact gb_refl _ _ | with_reducible refine gb_drew ?_))); have hfar := sum_far (q8 := q8) (q9 := q9) hx11 hf11 (Nat.lt_of_lt_of_le hl3 hgr.size) hq89 (B0 := w.heap.size) (pb := pb) (Nat.le_trans HGW9.out.size hgr.size) (fun a ha => ⟨(HF6.out a ha).1, .inl (HF6.out a ha).2⟩) (fun a ha => ⟨.inr (HP10.out a ha), .inl (by have := HP10.out a ha; omega)⟩); have HFR := Lib.hid hfar; have HX11 := Lib.hid hx11; have GG3 := Lib.hid (gb_trans hgr hg11); obtain ⟨t0, t1, t2⟩ := zcells_of (bx GG3.out HT65.out); clear hx11 hg11 hf11 hgr hfar))
        all_goals
          go_wp2
          go_meet
          have hx := HX11.out
          rw [EB.out, ← V1.out] at hx
          have hset := DSt.set8 (HD5.out.kept GG3.out) hx HFR.out rfl
          first | exact hset | exact hset.kept (gb_drew (gb_refl _ none))
      case rest =>
        have HD7 := hcut
        clear e0 e1 e2 yb0 HD5 HT65 HI65
        obtain ⟨W10, hW10⟩ : ∃ W10, W10 = wc := ⟨_, rfl⟩
        rw [← hW10] at HD7 ⊢
        clear hW10
        obtain ⟨z4, z5, -, ⟨s8, p8, n8, c8, t8, i8, f8⟩, ⟨s9, p9, n9, c9, t9, i9, f9⟩, hgw, l1, l2, l3⟩ := HD7.out
        have HFIN := Lib.hid (fun R => z_ret2 (R := R) z4 z5 i8 i9 hgw (show w.heap.size ≤ w.heap.size + 1 + 1 by omega))
        obtain ⟨a0, a1, a2⟩ := zcells_of z4
        obtain ⟨b0, b1, b2⟩ := zcells_of z5
        obtain ⟨d0, d1', d2⟩ := zcells_of t8
        obtain ⟨e0, e1, e2⟩ := zcells_of t9
        have HF9 := Lib.hid f9
        clear z4 z5 t8 i8 f8 t9 i9 f9 hgw HD7
        go_wp2_with fail
        go_region
        all_goals
          go_wp2
          obtain ⟨⟨k0, k1, k2⟩, ⟨k3, k4⟩, ⟨k5, k6⟩⟩ := HFIN.out _ rfl
          exact bodyPost_ret (v := .tuple #[.agg #[.int .i64 s8, .slice p8 n8 c8], .agg #[.int .i64 s9, .slice p9 n9 c9]]) (by simp [results, Try.results31, go_sem, k3, k4, k5, k6]) rfl ⟨_, _, _, _, _, _, _, _, rfl, k0.kept (gb_drew (gb_refl _ none)), k1.kept (gb_drew (gb_refl _ none)), gb_drew k2, fun h => by obtain ⟨a, h1, -, -, h4⟩ := HF9.out h; exact ⟨a, h1, h4⟩⟩
  · have d1 : decide (s7 < 0) = false := decide_eq_false hneg
    have hq : A / B = sg (A * B) * ((A.natAbs / B.natAbs : Nat) : Int) ∧ A % B = sa * ((A.natAbs % B.natAbs : Nat) : Int) := by
      have h1 : 0 ≤ A ∨ A.natAbs % B.natAbs = 0 := by
        by_cases h : 0 ≤ A
        · exact .inl h
        · refine .inr ?_
          by_cases h2 : A.natAbs % B.natAbs = 0
          · exact h2
          · exact absurd (HSG.out.1 ⟨by omega, h2⟩) hneg
      obtain ⟨v1, v2⟩ := HR1.out h1
      rw [sg_times] at v1
      rw [EA.out]
      exact ⟨v1, v2⟩
    rw [← hq.1, ← hq.2] at HDS
    clear hq hneg HSG
    go_wp2_with fail
    generalize w7.alloc (.cells #[.int .i64 s7, .slice p7 n7 c7] 31) = W8 at *
    generalize w6.heap.size = q8 at *
    generalize w7.heap.size = q9 at *
    obtain ⟨z4, z5, -, ⟨s8, p8, n8, c8, t8, i8, f8⟩, ⟨s9, p9, n9, c9, t9, i9, f9⟩, hgw, l1, l2, l3⟩ := HDS.out
    have HFIN := Lib.hid (fun R => z_ret2 (R := R) z4 z5 i8 i9 hgw (show w.heap.size ≤ w.heap.size + 1 + 1 by omega))
    obtain ⟨a0, a1, a2⟩ := zcells_of z4
    obtain ⟨b0, b1, b2⟩ := zcells_of z5
    obtain ⟨d0, d1', d2⟩ := zcells_of t8
    obtain ⟨e0, e1, e2⟩ := zcells_of t9
    have HF9 := Lib.hid f9
    clear z4 z5 t8 i8 f8 t9 i9 f9 hgw HDS
    go_region
    all_goals
      go_wp2
      obtain ⟨⟨k0, k1, k2⟩, ⟨k3, k4⟩, ⟨k5, k6⟩⟩ := HFIN.out _ rfl
      exact bodyPost_ret (v := .tuple #[.agg #[.int .i64 s8, .slice p8 n8 c8], .agg #[.int .i64 s9, .slice p9 n9 c9]]) (by simp [results, Try.results31, go_sem, k3, k4, k5, k6]) rfl ⟨_, _, _, _, _, _, _, _, rfl, k0.kept (gb_drew (gb_refl _ none)), k1.kept (gb_drew (gb_refl _ none)), gb_drew k2, fun h => by obtain ⟨a, h1, -, -, h4⟩ := HF9.out h; exact ⟨a, h1, h4⟩⟩
section
variable {w : World} {L : List (Value × Int × Nat)} {x y : Value} {X Y : Int} {i j : Nat}

def KDPost (L : List (Value × Int × Nat)) (X Y : Int) (i j : Nat) (w : World) (e : Ending) (w' : World) : Prop :=
  ∃ s p n c s2 p2 n2 c2, e = .returned (.tuple #[.agg #[.int .i64 s, .slice p n c], .agg #[.int .i64 s2, .slice p2 n2 c2]]) ∧ KnownZ w' ((.agg #[.int .i64 s, .slice p n c], X / Y, i) :: (.agg #[.int .i64 s2, .slice p2 n2 c2], X % Y, j) :: L) ∧ w.grownBy w' none

theorem RDivMod_k (H : KnownZ w L) (hx : (x, X, i) ∈ L) (hy : (y, Y, j) ∈ L) (hi : i ≤ 120) (hj : j ≤ 120) (h0 : Y ≠ 0) : Calls Try.prog 31 #[x, y] w (KDPost L X Y i j w) := by
  obtain ⟨a1, a2⟩ := H _ hx
  obtain ⟨b1, b2⟩ := H _ hy
  obtain ⟨sb, pb, m, cb, rfl, -⟩ := z_parts b1
  refine (RDivMod_c x sb pb m cb X Y w a1 b1 (Nat.lt_of_lt_of_le a2 (ten_le hi)) (Nat.lt_of_lt_of_le b2 (ten_le hj)) h0).mono ?_
  rintro e w' ⟨s, p, n, c, s2, p2, n2, c2, rfl, h1, h2, h3, -⟩
  have e1 : (X / Y).natAbs < 10 ^ i := Nat.lt_of_le_of_lt (Int.natAbs_ediv_le_natAbs X Y) a2
  have e2 : (X % Y).natAbs < 10 ^ j := by
    have h1 := Int.emod_nonneg X h0
    have h2 := Int.emod_lt X h0
    have b2 : Y.natAbs < 10 ^ j := b2
    generalize 10 ^ j = t at *
    omega
  exact ⟨s, p, n, c, s2, p2, n2, c2, rfl, ((H.kept h3).cons h2 e2).cons h1 e1, h3⟩
end
end Go.Proofs.Ytkonfkcaefjabaa
