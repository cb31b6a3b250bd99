/- Slices that a call makes by append: what they hold, and one thing more. -/
import Derived.Test.YtmlcpihedmmlfaaGreatDoorK10
import Derived.BigRegion
import Derived.Deep.CutBlock
import Derived.Deep.DeepCutAuto
set_option linter.unusedVariables false
set_option linter.unusedSimpArgs false
namespace Go.Proofs.YtmlcpihedmmlfaaGreatDoor.Zd
open Go.RowKit Mx

def lst (k : IntKind) (n : Nat) (f : Nat → Nat) : List Value := (List.range n).map fun j => Value.int k (f j)
theorem lst_len {k : IntKind} {n : Nat} {f : Nat → Nat} : (lst k n f).length = n := by simp [lst]
theorem lst_get {k : IntKind} {n : Nat} {f : Nat → Nat} {j : Nat} (h : j < n) : (lst k n f)[j]? = some (.int k (f j)) := by simp [lst, h]
theorem lst_succ {k : IntKind} {n : Nat} {f : Nat → Nat} {y : Nat} : lst k (n + 1) (upd f n y) = lst k n f ++ [.int k y] := by
  unfold lst
  rw [List.range_succ, List.map_append]
  congr 1
  · apply List.map_congr_left
    intro j hj
    rw [upd_ne (by simp at hj; omega)]
  · simp [upd]
theorem lst_take {k : IntKind} {n m : Nat} {f : Nat → Nat} (h : m ≤ n) : (lst k n f).take m = lst k m f := by
  unfold lst
  rw [← List.map_take, List.take_range, Nat.min_eq_left h]

/-- The slice v, of the call's own blocks from base on, holds the n numbers f 0 .. -/
def Own (k : IntKind) (e : TypeId) (w : World) (base : Nat) (v : Value) (n : Nat) (f : Nat → Nat) : Prop := w.ownsRow base e 1 v n (lst k n f)

section
variable {k : IntKind} {e : TypeId} {w w' : World} {base : Nat} {v : Value} {n : Nat} {f : Nat → Nat}
theorem Own.shape (h : Own k e w base v n f) : (v = .slice none 0 0 ∧ n = 0) ∨ ∃ g cap, v = .slice (some ⟨g, 0, none⟩) n cap ∧ base ≤ g ∧ g < w.heap.size ∧ n ≤ cap ∧ cap ≤ maxLen := by
  rcases h.2 with h2 | ⟨g, cap, cur, hv, hb, hg, hn, hc, _⟩
  · exact .inl h2
  · exact .inr ⟨g, cap, hv, hb, (Array.getElem?_eq_some_iff.1 hg).1, hn, hc⟩
theorem Own.at {p : Option Addr} {m cap : Nat} (h : Own k e w base (.slice p m cap) n f) : m = n ∧ At k w p n f := by
  rcases h.2 with ⟨hv, hn⟩ | ⟨g, cap', cur, hv, hb, hg, hn, hc, hs, htake⟩
  · injection hv with h1 h2; subst h1; subst h2; exact ⟨hn.symm, .inl hn⟩
  · injection hv with h1 h2 h3; subst h1; subst h2; subst h3
    refine ⟨rfl, .inr ⟨g, 0, rfl, (Array.getElem?_eq_some_iff.1 hg).1, fun j hj => ?_⟩⟩
    have := World.ownsRow.cells (w := w) (base := base) (e := e) (size := 1) (v := .slice (some ⟨g, 0, none⟩) m cap) (n := m) (xs := lst k m f) ⟨by simp [lst], .inr ⟨g, cap, cur, rfl, hb, hg, hn, hc, hs, htake⟩⟩ (g := g) rfl j (.int k (f j)) (lst_get hj)
    rwa [addr_add] at this
theorem Own.kept {row : Option Nat} (h : Own k e w base v n f) (hg : w.grownBy w' row) (hne : v.ownBlock = none ∨ v.ownBlock ≠ row) : Own k e w' base v n f := World.ownsRow.kept h hg hne
theorem Own.cut {g cap m : Nat} (h : Own k e w base (.slice (some ⟨g, 0, none⟩) n cap) n f) (hm : m ≤ n) : Own k e w base (.slice (some ⟨g, 0, none⟩) m cap) m f := by
  rcases h.2 with ⟨hv, _⟩ | ⟨g', cap', cur, hv, hb, hg, hn, hc, hs, htake⟩
  · cases hv
  · injection hv with h1 h2 h3
    injection h1 with h1
    injection h1 with h1
    subst h1; subst h3
    refine ⟨by simp [lst], .inr ⟨g, cap, cur, rfl, hb, hg, by omega, hc, hs, ?_⟩⟩
    rw [Nat.mul_one] at htake ⊢
    rw [← lst_take hm, ← htake, List.take_take, Nat.min_eq_left hm]
theorem Own.far (h : Own k e w base v n f) : ∀ g, v.ownBlock = some g → base ≤ g := by
  intro g hg
  rcases h.shape with ⟨rfl, _⟩ | ⟨g', cap, rfl, hb, _⟩
  · cases hg
  · simp [Value.ownBlock] at hg; omega
theorem Own.mono {base' : Nat} (h : Own k e w base v n f) (hb : base' ≤ base) : Own k e w base' v n f := by
  refine ⟨h.1, ?_⟩
  rcases h.2 with h2 | ⟨g, cap, cur, hv, hg, r⟩
  · exact .inl h2
  · exact .inr ⟨g, cap, cur, hv, by omega, r⟩
theorem gb_own {a : World} (h : a.grownBy w none) (ho : Own k e w base v n f) (hb : a.heap.size ≤ base) (hg : w.grownBy w' v.ownBlock) : a.grownBy w' none := by
  have hf := ho.far
  exact ⟨hg.os.trans h.os, hg.tape.trans h.tape, hg.output.trans h.output, Nat.le_trans h.size hg.size, fun i hi _ => (hg.block i (Nat.lt_of_lt_of_le hi h.size) (fun e => by have := hf i e.symm; omega)).trans (h.block i hi (by simp))⟩
theorem Own.nil : Own k e w base (.slice none 0 0) 0 f := World.ownsRow_nil w base e 1
theorem Own.congr {f2 : Nat → Nat} (h : Own k e w base v n f) (hf : ∀ j, j < n → f j = f2 j) : Own k e w base v n f2 := by
  have : lst k n f2 = lst k n f := by
    unfold lst
    apply List.map_congr_left
    intro j hj
    rw [hf j (by simpa using hj)]
  unfold Own
  rw [this]; exact h
theorem Own.set {g cap j x : Nat} (h : Own k e w base (.slice (some ⟨g, 0, none⟩) n cap) n f) (hj : j < n) : Own k e (w.setCell ⟨g, j, none⟩ (.int k x)) base (.slice (some ⟨g, 0, none⟩) n cap) n (upd f j x) := by
  have h2 := (World.ownsRow.stored h j (.int k x)).1
  have e : (lst k n f).set j (.int k x) = lst k n (upd f j x) := by
    apply List.ext_getElem?
    intro i
    rw [List.getElem?_set, lst_len]
    by_cases hi : i < n
    · rw [lst_get hi]
      by_cases hij : j = i
      · subst hij; rw [lst_get hi, upd_at]; simp [hi]
      · rw [if_neg hij, lst_get hi, upd_ne (by omega)]
    · rw [if_neg (by omega), List.getElem?_eq_none (by rw [lst_len]; omega), List.getElem?_eq_none (by rw [lst_len]; omega)]
  rw [e] at h2
  exact h2
theorem Own.cell {g cap j : Nat} (h : Own k e w base (.slice (some ⟨g, 0, none⟩) n cap) n f) (hj : j < n) : w.cell? ⟨g, j, none⟩ = some (.int k (f j)) := by
  rw [World.ownsRow.cellAt h j (by omega)]; exact lst_get hj
theorem Own.free {g cap j : Nat} (h : Own k e w base (.slice (some ⟨g, 0, none⟩) n cap) n f) : w.frozen? ⟨g, j, none⟩ = false := World.ownsRow.frozenAt h j
end

/-- append of one number, as a step of the walk. -/
theorem wpList_app1 {k : IntKind} {t e : TypeId} {bytes : Nat} (ht : Tryz.prog.underlying t = some (.slice e)) (hinfo : (Tryz.prog.info? e).map (fun i => (i.zero, i.size, i.bytes)) = some (some (.int k 0), 1, bytes)) (hby : bytes ≤ 8)
    {w0 : World} {ops : Array Oper} {rest : List Oper} {o : Oper} {a : Act} {Q : Exit → Act → World → Prop} (hgd : o.guard = none) (s x : Operand) (ho : o.op = .call { callee := .builtin .append, args := #[s, x], argTypes := #[t, t] })
    (base : Nat) (v : Value) (n : Nat) (f : Nat → Nat) (Y : Int) (y : Nat) (hY : Y = (y : Int)) (hs : a.eval s = v) (hown : Own k e w0 base v n f) (hx : a.eval x = .slice (some ⟨w0.heap.size, 0, none⟩) 1 1) (hn : n ≤ 1000000000) (hbase : base ≤ w0.heap.size)
    (K : ∀ v' w', Own k e w' base v' (n + 1) (upd f n y) → w0.grownBy w' v.ownBlock → wpList Tryz.prog ops Q rest (a.put o.dst v') w') :
    wpList Tryz.prog ops Q (o :: rest) a (w0.alloc (.cells #[.int k Y] e)) := by
  subst hY
  obtain ⟨i0, hi, hz0, hz1, hz2⟩ := info_parts hinfo
  refine wpList_append_own (P := Tryz.prog) _ hgd s x t ho base e i0 (.int k 0) 1 bytes ht hi hz0 hz1 hz2 rfl (by decide) v n (lst k n f) hs (hown.alloc _) ⟨w0.heap.size, 0, none⟩ 1 1 [.int k y] hx rfl ?_ ?_ (by unfold maxLen; omega) ?_ (by simp; omega) ?_
  · intro j u hj
    match j, hj with
    | 0, hj => simp at hj; subst hj; simp [Addr.add]
  · intro u hu; simp at hu; subst hu; rfl
  · have : (n + 1) * bytes ≤ (n + 1) * 8 := Nat.mul_le_mul_left _ hby
    omega
  · intro v' w' h1 h2 _
    refine K v' w' ?_ ⟨h2.os, h2.tape, h2.output, Nat.le_trans (by simp) h2.size, fun j hj hr => (h2.block j (by simp; omega) hr).trans (Below.heap_alloc w0 _ j hj)⟩
    unfold Own
    rw [lst_succ]; exact h1
theorem own_below {w w1 w2 : World} (h : Below w.heap.size w w1) {o : Obj} (hg : (w1.alloc o).grownBy w2 (some w1.heap.size)) : w.grownBy w2 none :=
  below_gb (gb_new (h.alloc h.size o) h.size hg)

theorem lt_cut {f : Nat → Nat} {n M : Nat} (h : ∀ j, j < n → f j < Bw) : ∀ j, j < M → (fun j => if j < n then f j else 0) j < Bw := by
  intro j _
  show (if j < n then f j else 0) < Bw
  split
  · exact h j ‹_›
  · exact Bw_pos

theorem num_pos {n : Nat} {f : Nat → Nat} (hB : V Bw f 0 n ≠ 0) : 0 < n := by
  rcases Nat.eq_zero_or_pos n with h | h
  · subst h; exact absurd rfl hB
  · exact h
end Go.Proofs.YtmlcpihedmmlfaaGreatDoor.Zd
namespace Go.Proofs.YtmlcpihedmmlfaaGreatDoor.Zd
open Go.RowKit Mx

/-- How many decimal digits N has (0 of 0). -/
def nd (N : Nat) : Nat := if h : N = 0 then 0 else nd (N / 10) + 1
termination_by N
decreasing_by omega

theorem nd_lt (N : Nat) : N < 10 ^ nd N := by
  induction N using nd.induct with
  | case1 => simp [nd]
  | case2 N h ih => rw [nd, dif_neg h, Nat.pow_succ]; omega

theorem nd_le (N : Nat) (h : N ≠ 0) : 10 ^ (nd N - 1) ≤ N := by
  induction N using nd.induct with
  | case1 => exact absurd rfl h
  | case2 N h ih =>
    rw [nd, dif_neg h, Nat.add_sub_cancel]
    by_cases h1 : N / 10 = 0
    · rw [h1, nd, dif_pos rfl]; simp; omega
    · have := ih h1
      have e : 10 ^ nd (N / 10) = 10 ^ (nd (N / 10) - 1) * 10 := by
        rw [← Nat.pow_succ]; congr 1
        have : nd (N / 10) ≠ 0 := by rw [nd, dif_neg h1]; omega
        omega
      omega

theorem nd_of {N n : Nat} (h1 : N < 10 ^ n) (h2 : 10 ^ (n - 1) ≤ N) (hn : 0 < n) : n = nd N := by
  have hN : N ≠ 0 := by have := Nat.pow_pos (n := n - 1) (show 0 < 10 by omega); omega
  have a := nd_lt N
  have b := nd_le N hN
  rcases Nat.lt_trichotomy n (nd N) with h | h | h
  · have : 10 ^ n ≤ 10 ^ (nd N - 1) := Nat.pow_le_pow_right (by omega) (by omega); omega
  · exact h
  · have : 10 ^ nd N ≤ 10 ^ (n - 1) := Nat.pow_le_pow_right (by omega) (by omega); omega

def dig (N j : Nat) : Nat := N / 10 ^ j % 10

/-- Digits without a nought at the end are the number's. -/
theorem digits_of {f : Nat → Nat} {n N : Nat} (hf : ∀ j, j < n → f j < 10) (hn : 0 < n) (ht : f (n - 1) ≠ 0) (hV : V 10 f 0 n = N) : n = nd N ∧ ∀ j, j < n → f j = dig N j := by
  refine ⟨nd_of ?_ ?_ hn, fun j hj => ?_⟩
  · rw [← hV]; exact V_lt (fun j hj => by rw [Nat.zero_add]; exact hf j hj)
  · rcases V_top (b := 10) (f := f) (o := 0) (n := n) (.inr (by simpa using ht)) with h | h
    · omega
    · rw [← hV]; exact h
  · have := V_digit (b := 10) (f := f) (o := 0) (n := n) (by omega) (fun j hj => by rw [Nat.zero_add]; exact hf j hj) hj
    rw [Nat.zero_add] at this
    rw [← this, ← hV]; rfl

/-- A number's text without a sign, the highest digit first. -/
def decL (N : Nat) : List UInt8 := (List.range (nd N)).map fun j => UInt8.ofNat (48 + dig N (nd N - 1 - j))

/-- A number's text. -/
def txtL (Z : Int) : List UInt8 := if Z = 0 then [48] else if Z < 0 then 45 :: decL Z.natAbs else decL Z.natAbs
def txt (Z : Int) : Value := .string ⟨(txtL Z).toArray⟩

def DigPost (N : Nat) (w : World) (e : Ending) (w' : World) : Prop :=
  ∃ g cap f, e = .returned (.slice (some ⟨g, 0, none⟩) ((nd N : Nat)) cap) ∧ Own .u8 5 w' w.heap.size (.slice (some ⟨g, 0, none⟩) (nd N) cap) (nd N) f ∧ (∀ j, j < nd N → f j = 48 + dig N j) ∧ w.grownBy w' none

theorem info8 : (Tryz.prog.info? 5).map (fun i => (i.zero, i.size, i.bytes)) = some (some (.int .u8 0), 1, 1) := by kernel_rfl

def ten19 : Nat := 10000000000000000000

/-- The digits that bytes are. -/
def dv (f : Nat → Nat) : Nat → Nat := fun j => f j - 48

def DRel (w : World) (N na : Nat) (g : Nat) (left out : Value) (wr : World) : Prop :=
  ∃ nl p cl fl n fb, left = .slice p nl cl ∧ nl ≤ cl ∧ cl ≤ maxLen ∧ nl ≤ na ∧ (0 < nl → p = some ⟨w.heap.size, 0, none⟩) ∧ Blk .u64 wr w.heap.size na fl ∧ (∀ j, j < na → fl j < Bw) ∧ (nl = 0 ∨ fl (nl - 1) ≠ 0) ∧ V Bw fl 0 nl = g ∧
    Own .u8 5 wr (w.heap.size + 1) out n fb ∧ (∀ j, j < n → 48 ≤ fb j ∧ fb j < 58) ∧ V 10 (dv fb) 0 n + 10 ^ n * g = N ∧ w.grownBy wr none

def GRel (w wo : World) (na : Nat) (fl fb : Nat → Nat) (n r0 : Nat) (r gn : Nat) (out : Value) (wr : World) : Prop :=
  ∃ fb', Blk .u64 wr w.heap.size na fl ∧ Own .u8 5 wr (w.heap.size + 1) out (n + r) fb' ∧ (∀ j, j < n + r → 48 ≤ fb' j ∧ fb' j < 58) ∧ gn < 10 ^ (19 - r) ∧ V 10 (dv fb') 0 (n + r) + 10 ^ (n + r) * gn = V 10 (dv fb) 0 n + 10 ^ n * r0 ∧ w.grownBy wr none

theorem dv_upd {f : Nat → Nat} {n y : Nat} : V 10 (dv (upd f n y)) 0 (n + 1) = V 10 (dv f) 0 n + (y - 48) * 10 ^ n := by
  rw [V_succ, Nat.zero_add]
  congr 1
  · exact V_congr (fun j hj => by unfold dv; rw [upd_ne (by omega)])
  · simp [dv, upd]

theorem digit_step {f : Nat → Nat} {m gn T : Nat} (h : V 10 (dv f) 0 m + 10 ^ m * gn = T) : V 10 (dv (upd f m (48 + gn % 10))) 0 (m + 1) + 10 ^ (m + 1) * (gn / 10) = T := by
  rw [dv_upd, Nat.add_sub_cancel_left, Nat.pow_succ, ← h]
  have := Nat.div_add_mod gn 10
  generalize gn / 10 = a at *
  generalize gn % 10 = b at *
  rw [← this]; grind

theorem digit_rng {f : Nat → Nat} {m gn : Nat} (h : ∀ j, j < m → 48 ≤ f j ∧ f j < 58) : ∀ j, j < m + 1 → 48 ≤ upd f m (48 + gn % 10) j ∧ upd f m (48 + gn % 10) j < 58 := by
  intro j hj
  unfold upd
  split
  · omega
  · exact h j (by omega)

theorem digit_len {n X g N na : Nat} (h : X + 10 ^ n * g = N) (hg : 0 < g) (hN : N < Bw ^ na) : n < 64 * na := by
  have h1 : 10 ^ n * 1 ≤ 10 ^ n * g := Nat.mul_le_mul_left _ hg
  have h2 : 2 ^ n ≤ 10 ^ n := Nat.pow_le_pow_left (by omega) n
  have h3 : Bw ^ na = 2 ^ (64 * na) := by rw [Nat.pow_mul]; rfl
  have h4 : 2 ^ n < 2 ^ (64 * na) := by rw [← h3]; omega
  exact (Nat.pow_lt_pow_iff_right (by omega)).1 h4

set_option maxHeartbeats 2000000 in
theorem digitsFromLast_w (pa : Option Addr) (na capa : Nat) (f : Nat → Nat) (w : World) (hna : na ≤ 100000) (ha : At .u64 w pa na f) (hf : ∀ j, j < na → f j < Bw) (t : na = 0 ∨ f (na - 1) ≠ 0) (h0 : 0 < na) :
    Calls Tryz.prog 125 #[.slice pa na capa] w (DigPost (V Bw f 0 na) w) := by
  have hmk : ∀ w, (Instr.makeSlice 56 (.int .i64 (na : Int)) (.int .i64 (na : Int))).run Tryz.prog w = .ok (.slice (some ⟨w.heap.size, 0, none⟩) na na) (w.alloc (.cells (madeCells #[.int .u64 0] na) 199)) :=
    fun w => make64_run na (by omega) w
  have HA := Lib.hid ha; have HF := Lib.hid hf; have HT := Lib.hid t
  have hN0 : V Bw f 0 na ≠ 0 := by
    rcases V_top (b := Bw) (f := f) (o := 0) (n := na) (by simpa using t) with e | e
    · omega
    · have := Nat.pow_pos (n := na - 1) Bw_pos; omega
  have HN0 := Lib.hid hN0
  clear ha hf t hN0
  go_enter Tryz.func125, Tryz.ntmps125
  go_wp2_with (with_reducible refine wpList_copy64 rfl _ _ rfl rfl w.heap.size na na capa pa (fun _ => 0) f rfl rfl (Blk_made _ _ _) (HA.out.grown (World.grownBy_alloc _ _ none) (by simp)) (by omega) ?_)
  intro w2 HB2 HG2
  have HBEL := Lib.hid (own_below (Below.refl _ _) HG2.out)
  have HSZ := HB2.out.lt
  have HF2 := Lib.hid (lt_cut HF.out (M := na))
  clear hmk HG2 HA
  have hNlt : V Bw f 0 na < Bw ^ na := V_lt (fun j hj => by rw [Nat.zero_add]; exact HF.out j hj)
  have HNL := Lib.hid hNlt
  have HS : Hid (DRel w (V Bw f 0 na) na (V Bw f 0 na) (.slice (some ⟨w.heap.size, 0, none⟩) na na) (.slice none 0 0) w2) :=
    ⟨na, _, na, _, 0, fun _ => 0, rfl, Nat.le_refl _, by unfold maxLen; omega, Nat.le_refl _, fun _ => rfl, HB2.out, HF2.out, by have := HT.out; rcases this with h | h; exact .inl h; exact .inr (by rw [if_pos (by omega)]; exact h), V_congr (fun j hj => by simp [hj]), Own.nil, fun j hj => by omega, by simp [V], HBEL.out⟩
  clear hNlt HB2 HBEL HF2 HSZ
  go_wp2_with fail
  go_loopg [3, 4] (V Bw f 0 na) (fun g left out wr => DRel w (V Bw f 0 na) na g left out wr)
  case atStart => exact HS.out
  case round =>
    clear HS
    obtain ⟨nl, p, cl, fl, n, fb, rfl, q1, q2, q3, q4, q5, q6, q7, q8, q9, q10, q11, q12⟩ := hrel
    by_cases hnl : 0 < nl
    · obtain rfl := q4 hnl
      have hg0 : 0 < gk := by
        rw [← q8]
        rcases V_top (b := Bw) (f := fl) (o := 0) (n := nl) (by simpa using q7) with e | e
        · omega
        · have := Nat.pow_pos (n := nl - 1) Bw_pos; omega
      have hlen := digit_len q11 hg0 HNL.out
      have HBL := Lib.hid q5; have HFL := Lib.hid q6; have HV8 := Lib.hid q8; have HO := Lib.hid q9; have HR10 := Lib.hid q10; have HE := Lib.hid q11; have HW := Lib.hid q12
      have ht19 : 0 < ten19 := by unfold ten19; omega
      have ht19B : ten19 < Bw := by unfold ten19 Bw; omega
      have HT1 := Lib.hid ht19; have HT2 := Lib.hid ht19B
      have HGK0 := Lib.hid hg0
      clear q4 q5 q6 q7 q8 q9 q10 q11 q12 ht19 ht19B hg0
      go_wp2_with (go_at_call 157; rw [show (10000000000000000000 : Int) = ((ten19 : Nat) : Int) from rfl]; refine (divideInPlace_c w.heap.size 0 nl _ na ten19 fl _ HBL.out (by omega) (by omega) HFL.out HT1.out HT2.out).mono ?_; rintro e w3 ⟨r0, f3, rfl, hr, hB3, hF3, hO3, hV3, hG3⟩; have HB3 := Lib.hid hB3; have HF3 := Lib.hid hF3; have HV3 := Lib.hid hV3; have HG3 := Lib.hid hG3; have HR := Lib.hid hr; clear hB3 hF3 hO3 hV3 hG3 hr)
      refine (trim_c _ nl cl f3 _ q1 q2 (HB3.out.at0.pre q3)).mono ?_
      rintro e w4 ⟨m, p', cap', rfl, hm, hm2, hc', ht, hz, hm0, hmp, rfl⟩
      have HM1 := Lib.hid ht; have HM2 := Lib.hid hz; have HM3 := Lib.hid hmp
      clear ht hz hm0 hmp
      have HSZ4 := HO.out.far
      have hblk := HO.out.kept HG3.out (by
        rcases HO.out.shape with ⟨e, _⟩ | ⟨g', c', e, hb, _⟩
        · subst e; exact .inl rfl
        · subst e; exact .inr (by simp [Value.ownBlock]; omega))
      have HBK := Lib.hid hblk
      have HW3 := Lib.hid (below_gb (row := none) (gb_new (gb_below HW.out) (Nat.le_refl _) HG3.out))
      have HGS : Hid (GRel w w na f3 fb n r0 0 r0 u4 w3) := ⟨fb, HB3.out, HBK.out, HR10.out, by have := HR.out; unfold ten19 at this; omega, rfl, HW3.out⟩
      clear hblk HSZ4 HBK HW3 HBL HG3 HW HO
      go_wp2_with fail
      go_loopg [4, 5, 19] 19 (fun g out grp i wr => ∃ r gn : Nat, g = 19 - r ∧ r ≤ 19 ∧ i = .int .i64 r ∧ grp = .int .u64 gn ∧ GRel w w na f3 fb n r0 r gn out wr)
      case atStart => exact ⟨0, r0, rfl, by omega, rfl, rfl, HGS.out⟩
      case round =>
        clear HGS
        obtain ⟨r, gn, rfl, hr19, rfl, rfl, fb', g1, g2, g3, g4, g5, g6⟩ := hrel
        by_cases hlt : r < 19
        · have i1 : (0 : Int) ≤ (gn : Int) % 10 := by omega
          have i2 : (gn : Int) % 10 < 10 := by omega
          have i3 : (0 : Int) ≤ gn := by omega
          have i4 : (gn : Int) ≤ 18446744073709551615 := by
            have : 10 ^ (19 - r) ≤ 10 ^ 19 := Nat.pow_le_pow_right (by omega) (by omega)
            omega
          have G1 := Lib.hid g1; have G2 := Lib.hid g2; have G3 := Lib.hid g3; have G4 := Lib.hid g4; have G5 := Lib.hid g5; have G6 := Lib.hid g6
          have hsz := G6.out.size
          have hL := G1.out.lt
          clear g1 g2 g3 g4 g5 g6
          go_wp2_with (at_builtin; refine wpList_app1 (k := .u8) (t := 99) (e := 5) (bytes := 1) Tryz.underlying99 info8 (by omega) rfl _ _ rfl (w.heap.size + 1) u4 (n + r) fb' _ (48 + gn % 10) (by omega) rfl G2.out rfl (by omega) (by omega) ?_)
          intro v' w' hO' hG'
          have HO' := Lib.hid hO'; have HG' := Lib.hid hG'
          clear hO' hG'
          go_wp2_with fail
          have hg2 : gn / 10 < 10 ^ (19 - (r + 1)) := by
            have e : 10 ^ (19 - r) = 10 ^ (19 - (r + 1)) * 10 := by rw [← Nat.pow_succ]; congr 1; omega
            have := G4.out
            omega
          have hL2 : w.heap.size ≠ w.heap.size + 1 := by omega
          have hBL : Blk .u64 w' w.heap.size na f3 := by
            refine G1.out.kept HG'.out ?_
            intro e
            have := G2.out.far _ e.symm
            omega
          go_roundg (19 - (r + 1))
          case measure => omega
          case rel => exact ⟨r + 1, gn / 10, rfl, by omega, by go_num, val_of (by omega), upd fb' (n + r) (48 + gn % 10), hBL, HO'.out, digit_rng G3.out, hg2, digit_step G5.out, gb_own G6.out G2.out (by omega) HG'.out⟩
        · obtain rfl : r = 19 := by omega
          have hz : gn = 0 := by have : gn < 10 ^ 0 := g4; simpa using this
          rw [hz, Nat.mul_zero, Nat.add_zero] at g5
          have hv3 : V Bw f3 0 m = V Bw f3 0 nl := (V_pad (fun j h1 h2 => by simpa using HM2.out j h1 h2) hm).symm
          have hgk : gk = V Bw f3 0 m * ten19 + r0 := by rw [hv3, HV3.out]; exact HV8.out.symm
          have hlt2 : V Bw f3 0 m < gk := by
            have h1 := HT1.out
            have h2 := HGK0.out
            have h3 : V Bw f3 0 m * 2 ≤ V Bw f3 0 m * ten19 := Nat.mul_le_mul_left _ (by unfold ten19; omega)
            omega
          have hE2 : V 10 (dv fb') 0 (n + 19) + 10 ^ (n + 19) * V Bw f3 0 m = V Bw f 0 na := by
            rw [g5, ← HE.out, hgk, Nat.pow_add]
            have e : ten19 = 10 ^ 19 := by unfold ten19; rfl
            rw [e]; generalize (10:Nat) ^ 19 = t; grind
          have HH := Lib.hid (show DRel w (V Bw f 0 na) na (V Bw f3 0 m) (.slice p' m cap') u4 wr from ⟨m, p', cap', f3, n + 19, fb', rfl, hm2, by omega, by omega, HM3.out, g1, HF3.out, HM1.out, rfl, g2, g3, hE2, g6⟩)
          have HLT2 := Lib.hid hlt2
          clear hE2 hgk hv3 hz g1 g2 g3 g4 g5 g6 hlt2
          go_wp2_with fail
          go_roundg (V Bw f3 0 m)
          case measure => exact HLT2.out
          case rel => exact HH.out
    · obtain rfl : nl = 0 := by omega
      have hg : gk = 0 := q8.symm
      rw [hg, Nat.mul_zero, Nat.add_zero] at q11
      have hn0 : 0 < n := by
        rcases Nat.eq_zero_or_pos n with h | h
        · subst h; exact absurd q11.symm HN0.out
        · exact h
      obtain ⟨G, cap, rfl, hG1, hG2, hG3, hG4⟩ : ∃ g cap, u4 = .slice (some ⟨g, 0, none⟩) n cap ∧ w.heap.size + 1 ≤ g ∧ g < wr.heap.size ∧ n ≤ cap ∧ cap ≤ maxLen := by
        rcases q9.shape with ⟨_, h⟩ | h
        · omega
        · exact h
      have HO := Lib.hid q9; have HR10 := Lib.hid q10; have HE := Lib.hid q11; have HW := Lib.hid q12
      clear q4 q5 q6 q7 q8 q9 q10 q11 q12 hg HT HF
      go_wp2_with fail
      go_loopg [4] n (fun g out wx => ∃ m : Nat, g = m ∧ 0 < m ∧ m ≤ n ∧ out = .slice (some ⟨G, 0, none⟩) m cap ∧ Hid (V 10 (dv fb) 0 m = V Bw f 0 na) ∧ wr = wx)
      case atStart => exact ⟨n, rfl, hn0, Nat.le_refl _, rfl, HE, rfl⟩
      case round =>
        obtain ⟨m, hgm, hm0, hmn, rfl, HM, rfl⟩ := hrel
        obtain rfl : m = _ := hgm.symm
        have hcell := HO.out.cell (j := m - 1) (by omega)
        have hrng := HR10.out (m - 1) (by omega)
        unfold maxLen at hG4
        have i1 : (0 : Int) ≤ (m : Int) - 1 := by omega
        have i2 : (m : Int) - 1 < m := by omega
        by_cases hx : fb (m - 1) = 48
        · rw [hx] at hcell
          have hvm : V 10 (dv fb) 0 (m - 1) = V Bw f 0 na := by
            have := HM.out
            obtain ⟨t, rfl⟩ : ∃ t, m = t + 1 := ⟨m - 1, by omega⟩
            rw [V_succ, Nat.zero_add] at this
            simp only [Nat.add_sub_cancel] at hx ⊢
            have e : dv fb t = 0 := by unfold dv; rw [hx]
            rw [e, Nat.zero_mul, Nat.add_zero] at this
            exact this
          have hm1 : 0 < m - 1 := by
            rcases Nat.eq_zero_or_pos (m - 1) with h | h
            · rw [h] at hvm; exact absurd hvm.symm HN0.out
            · exact h
          have HVM := Lib.hid hvm
          clear hvm hx hrng
          go_wp2_with fail
          go_roundg (m - 1)
          case measure => omega
          case rel => exact ⟨m - 1, rfl, hm1, by omega, rfl, HVM, rfl⟩
        · have hd := digits_of (f := dv fb) (n := m) (N := V Bw f 0 na) (fun j hj => by have := HR10.out j (by omega); unfold dv; omega) hm0 (by unfold dv; omega) HM.out
          have hfin : DigPost (V Bw f 0 na) w (.returned (.slice (some ⟨G, 0, none⟩) m cap)) wr := by
            refine ⟨G, cap, fb, by rw [← hd.1], ?_, fun j hj => ?_, HW.out⟩
            · rw [← hd.1]; exact (HO.out.cut hmn).mono (by omega)
            · have h1 := HR10.out j (by omega)
              have h2 := hd.2 j (by omega)
              unfold dv at h2
              omega
          have HFIN := Lib.hid hfin
          have hne : ((fb (m - 1) : Int) == 48) = false := beq_eq_false_iff_ne.2 (by omega)
          clear hfin hd hrng hx
          go_wp2_with fail
          go_ret
          exact HFIN.out
end Go.Proofs.YtmlcpihedmmlfaaGreatDoor.Zd
namespace Go.Proofs.YtmlcpihedmmlfaaGreatDoor.Zd
open Go.RowKit Mx

def RevPost (g cap n : Nat) (f : Nat → Nat) (base : Nat) (w : World) (e : Ending) (w' : World) : Prop :=
  e = .returned (.tuple #[]) ∧ Own .u8 5 w' base (.slice (some ⟨g, 0, none⟩) n cap) n (fun j => f (n - 1 - j)) ∧ w.grownBy w' (some g)

def rv (f : Nat → Nat) (n k : Nat) : Nat → Nat := fun j => if j < k ∨ n ≤ j + k then f (n - 1 - j) else f j

theorem rv_step {f : Nat → Nat} {n k : Nat} (h : 2 * k + 1 < n) : ∀ j, j < n → upd (upd (rv f n k) k (f (n - 1 - k))) (n - 1 - k) (f k) j = rv f n (k + 1) j := by
  intro j hj
  unfold upd rv
  split
  · subst_vars
    rw [if_pos (by omega)]
    congr 1; omega
  · split
    · subst_vars; rw [if_pos (by omega)]
    · by_cases h1 : j < k ∨ n ≤ j + k
      · rw [if_pos h1, if_pos (by omega)]
      · rw [if_neg h1, if_neg (by omega)]

set_option maxHeartbeats 2000000 in
theorem reverse_c (g cap n : Nat) (f : Nat → Nat) (base : Nat) (w : World) (h : Own .u8 5 w base (.slice (some ⟨g, 0, none⟩) n cap) n f) (hn : n ≤ 1000000000) :
    Calls Tryz.prog 126 #[.slice (some ⟨g, 0, none⟩) n cap] w (RevPost g cap n f base w) := by
  have HO := Lib.hid h
  clear h
  go_enter Tryz.func126, Tryz.ntmps126
  go_wp2
  go_loopw [2, 3] (fun i j wr => ∃ k : Nat, 2 * k ≤ n + 1 ∧ i = .int .i64 k ∧ j = .int .i64 ((n : Int) - 1 - k) ∧ Hid (Own .u8 5 wr base (.slice (some ⟨g, 0, none⟩) n cap) n (rv f n k)) ∧ Hid (w.grownBy wr (some g))) (fun i _ _ => n - (intOf i).toNat)
  case atStart => exact ⟨0, by omega, rfl, by simp, HO.out.congr (fun j hj => by simp [rv]; omega), gb_refl _ _⟩
  case round =>
    obtain ⟨k, hk, rfl, rfl, HK, HG⟩ := hrel
    by_cases hlt : 2 * k + 1 < n
    · have c1 := HK.out.cell (j := k) (by omega)
      have c2 := HK.out.cell (j := n - 1 - k) (by omega)
      have f1 := HK.out.free (j := k)
      have f2 := HK.out.free (j := n - 1 - k)
      have e1 : rv f n k k = f k := by unfold rv; rw [if_neg (by omega)]
      have e2 : rv f n k (n - 1 - k) = f (n - 1 - k) := by unfold rv; rw [if_neg (by omega)]
      rw [e1] at c1; rw [e2] at c2
      obtain ⟨x, hx⟩ : ∃ x, f k = x := ⟨_, rfl⟩
      obtain ⟨y, hy⟩ : ∃ y, f (n - 1 - k) = y := ⟨_, rfl⟩
      rw [hx] at c1; rw [hy] at c2
      have HNEXT := Lib.hid (((HK.out.set (j := k) (x := y) (by omega)).set (j := n - 1 - k) (x := x) (by omega)).congr (f2 := rv f n (k + 1)) (by rw [← hx, ← hy]; exact rv_step hlt))
      obtain ⟨l, hl⟩ : ∃ l, n - 1 - k = l := ⟨_, rfl⟩
      have hli : (n : Int) - 1 - k = (l : Int) := by omega
      rw [hl] at c2 f2 HNEXT
      rw [hli]
      have i1 : (k : Int) < l := by omega
      have i2 : (l : Int) < n := by omega
      have hkl : k < l := by omega
      have hln : l < n := by omega
      have HL := Lib.hid hl
      have hf2' : (wr.setCell ⟨g, k, none⟩ (.int .u8 y)).frozen? ⟨g, l, none⟩ = false := (HK.out.set (j := k) (x := y) (by omega)).free
      have hc2' := (HK.out.set (j := k) (x := y) (by omega)).cell (j := l) (by omega)
      have e3 : rv f n k l = y := by rw [← hl, e2]; exact hy
      rw [upd_ne (by omega), e3] at hc2'
      clear e1 e2 e3 hx hy hl hli
      go_wp2
      go_region
      all_goals go_wp2
      go_roundw
      case rel => exact ⟨k + 1, by omega, by go_num, val_of (by have := HL.out; omega), HNEXT.out, gb_drew (gb_set (gb_set HG.out _) _)⟩
      case measure => simp [intOf]; omega
    · have hfin : RevPost g cap n f base w (.returned (.tuple #[])) wr := ⟨rfl, HK.out.congr (fun j hj => by
        unfold rv
        by_cases h : j < k ∨ n ≤ j + k
        · rw [if_pos h]
        · rw [if_neg h]; congr 1; omega), HG.out⟩
      have HFIN := Lib.hid hfin
      have i1 : ¬ ((k : Int) < (n : Int) - 1 - k) := by omega
      clear hfin
      go_wp2
      go_end0
      exact HFIN.out

theorem times_alg {A F c P m r s x c2 B : Nat} (h : A + c * P = m * F + r) (hs : s + c2 * B = x * m + c) : A + s * P + c2 * (P * B) = m * (F + x * P) + r := by
  have e : A + s * P + c2 * (P * B) = A + (s + c2 * B) * P := by grind
  rw [e, hs]
  have e2 : A + (x * m + c) * P = (A + c * P) + x * m * P := by grind
  rw [e2, h]; grind

def TPPost (base : Nat) (n m r : Nat) (f : Nat → Nat) (w : World) (e : Ending) (w' : World) : Prop :=
  ∃ v' n' f', e = .returned v' ∧ Own .u64 199 w' base v' n' f' ∧ n' ≤ n + 1 ∧ (∀ j, j < n' → f' j < Bw) ∧ V Bw f' 0 n' = m * V Bw f 0 n + r ∧ Below base w w'

theorem tp_arith {m x c hi lo s ov : Nat} (hm : m < Bw) (hx : x < Bw) (hc : c < Bw) (hml : hi * Bw + lo = x * m) (h1 : s + ov * Bw = lo + c + 0) (hs : s < Bw) : hi + ov < Bw ∧ s + (hi + ov) * Bw = x * m + c := by
  have := mul_top hx hm
  generalize x * m = P at *
  unfold Bw at *
  omega

set_option maxHeartbeats 2000000 in
theorem timesPlus_c (base : Nat) (v : Value) (n m r : Nat) (f : Nat → Nat) (w : World) (hO : Own .u64 199 w base v n f) (hf : ∀ j, j < n → f j < Bw) (hm : m < Bw) (hr : r < Bw) (hn : n ≤ 100000) (hbase : base ≤ w.heap.size) :
    Calls Tryz.prog 147 #[v, .int .u64 m, .int .u64 r] w (TPPost base n m r f w) := by
  obtain ⟨p, cap, rfl, hp⟩ : ∃ p cap, v = .slice p n cap ∧ (0 < n → ∃ g, p = some ⟨g, 0, none⟩ ∧ base ≤ g ∧ g < w.heap.size) := by
    rcases hO.shape with ⟨rfl, rfl⟩ | ⟨g, cap, rfl, hbg, hgs, hnc, hcm⟩
    · exact ⟨_, _, rfl, fun h => by omega⟩
    · exact ⟨_, _, rfl, fun _ => ⟨g, rfl, hbg, hgs⟩⟩
  have HS := Lib.hid hO; have HF := Lib.hid hf; have HM := Lib.hid hm; have HR := Lib.hid hr
  clear hO hf hm hr
  go_enter Tryz.func147, Tryz.ntmps147
  go_wp2
  go_loopw [2, 14] (fun c i wr => ∃ (k c' : Nat) (fk : Nat → Nat), k ≤ n ∧ i = .int .i64 k ∧ c = .int .u64 c' ∧ Hid (c' < Bw) ∧ Hid (Own .u64 199 wr base (.slice p n cap) n fk) ∧ Hid (∀ j, j < n → fk j < Bw) ∧ Hid (∀ j, k ≤ j → j < n → fk j = f j) ∧
      Hid (V Bw fk 0 k + c' * Bw ^ k = m * V Bw f 0 k + r) ∧ Hid (Below base w wr)) (fun _ i _ => n - (intOf i).toNat)
  case atStart => exact ⟨0, r, f, by omega, rfl, rfl, HR, HS, HF, fun _ _ _ => rfl, by simp [Hid, V], Below.refl _ _⟩
  case round =>
    clear HS HF HR
    obtain ⟨k, c', fk, hk, rfl, rfl, HC, HO, HF, HE, HV, HB⟩ := hrel
    by_cases hlt : k < n
    · obtain ⟨g, rfl, hbg, hgs⟩ := hp (by omega)
      have hc1 := HO.out.cell hlt
      have hf1 := HO.out.free (j := k)
      obtain ⟨hi, lo, hmul, hhi, hlo, hml⟩ := mul64_c (fk k) m (HF.out k hlt) HM.out
      obtain ⟨s, ov, hrun, hs, hov, hsum⟩ := add64_run lo c' 0 (by omega) hlo HC.out
      obtain ⟨hcn, har⟩ := tp_arith HM.out (HF.out k hlt) HC.out hml hsum hs
      have hr1 : ∀ w, (callFunc 168 #[.int .u64 lo, .int .u64 c', .int .u64 0]).run Tryz.prog w = .ok (.value (.tuple #[.int .u64 s, .int .u64 ov])) w := hrun
      have HMUL := Lib.hid hmul
      have H2 : Hid (V Bw (upd fk k s) 0 (k + 1) + (hi + ov) * Bw ^ (k + 1) = m * V Bw f 0 (k + 1) + r) := by
        show _ = _
        rw [V_succ, V_succ, Nat.zero_add, upd_at, V_upd_out (by omega), Nat.pow_succ, ← HE.out k (Nat.le_refl _) hlt]
        exact times_alg HV.out har
      have HCN := Lib.hid hcn
      have hcn2 : hi + ov < 18446744073709551616 := hcn
      have HSB := Lib.hid hs
      clear hrun hmul hml hsum hcn har hs hhi hlo
      go_wp2_with (go_at_call 167; refine (HMUL.out _).mono ?_; rintro e w' ⟨rfl, rfl⟩)
      go_roundw
      case rel => exact ⟨k + 1, hi + ov, upd fk k s, by omega, by go_num, by go_num, HCN, HO.out.set hlt, lt_upd HF.out HSB.out, (fun j h1 h2 => by rw [upd_ne (by omega)]; exact HE.out j (by omega) h2), H2, HB.out.setCell hbg _⟩
      case measure => simp [intOf]; omega
    · obtain rfl : k = n := by omega
      by_cases h0 : c' = 0
      · subst h0
        have hfin : TPPost base k m r f w (.returned (.slice p k cap)) wr := ⟨_, k, fk, rfl, HO.out, by omega, HF.out, by have := HV.out; rwa [Nat.zero_mul, Nat.add_zero] at this, HB.out⟩
        have HFIN := Lib.hid hfin
        clear hfin
        go_wp2
        go_ret
        exact HFIN.out
      · have hr0 : ((c' : Int) == 0) = false := beq_eq_false_iff_ne.2 (by omega)
        have hbs : base ≤ wr.heap.size := Nat.le_trans hbase HB.out.size
        have hfar := Lib.hid HO.out.far
        clear hp
        go_wp2_with (at_builtin; refine wpList_app1 (k := .u64) (t := 56) (e := 199) (bytes := 8) Tryz.underlying56 info64 (by omega) rfl _ _ rfl base (.slice p k cap) k fk _ c' rfl rfl HO.out rfl (by omega) (by omega) ?_)
        intro v' w' hO' hG'
        have HO' := Lib.hid hO'; have HG' := Lib.hid hG'
        clear hO' hG'
        go_wp2_with fail
        go_ret
        refine ⟨v', k + 1, _, rfl, HO'.out, by omega, fun j hj => ?_, ?_, HB.out.grown HG'.out hbs hfar.out⟩
        · unfold upd; split
          · exact HC.out
          · exact HF.out j (by omega)
        · rw [V_succ, Nat.zero_add, upd_at, V_upd_out (by omega)]; exact HV.out
end Go.Proofs.YtmlcpihedmmlfaaGreatDoor.Zd
namespace Go.Proofs.YtmlcpihedmmlfaaGreatDoor.Zd
open Go.RowKit Mx

/-- The value x reads as the whole number Z. -/
def IsInt (w : World) (x : Value) (Z : Int) : Prop := ∃ (s : Bool) (v : Value) (N : Nat), x = .agg #[.bool s, v] ∧ Num w v N ∧ (s = true → N ≠ 0) ∧ Z = if s then -(N : Int) else N

theorem IsInt.kept {w w' : World} {x : Value} {Z : Int} (h : IsInt w x Z) (hg : w.grownBy w' none) : IsInt w' x Z := by
  obtain ⟨s, v, N, rfl, hn, r⟩ := h
  exact ⟨s, v, N, rfl, hn.kept hg, r⟩

def IntPost (Z : Int) (w : World) (e : Ending) (w' : World) : Prop := ∃ x, e = .returned x ∧ IsInt w' x Z ∧ w.grownBy w' none

def sgn (s : Bool) (N : Nat) : Int := if s then -(N : Int) else N

theorem num_len {n : Nat} {f : Nat → Nat} (t : n = 0 ∨ f (n - 1) ≠ 0) : 0 < n ↔ V Bw f 0 n ≠ 0 := by
  constructor
  · intro h
    rcases V_top (b := Bw) (f := f) (o := 0) (n := n) (by simpa using t) with e | e
    · omega
    · have := Nat.pow_pos (n := n - 1) Bw_pos; omega
  · intro h
    exact num_pos h

theorem signed_fin {s : Bool} {p p' : Option Addr} {n m cap' : Nat} {f : Nat → Nat} {w : World} (q1 : m ≤ n) (q2 : m ≤ cap') (q3 : cap' ≤ maxLen) (h : At .u64 w p n f) (hf : ∀ j, j < n → f j < Bw)
    (q4 : m = 0 ∨ f (m - 1) ≠ 0) (q5 : ∀ j, m ≤ j → j < n → f j = 0) (q7 : 0 < m → p' = p) :
    IntPost (sgn s (V Bw f 0 n)) w (.returned (.agg #[.bool (s && decide (0 < m)), .slice p' m cap'])) (w.alloc (.cells #[.bool (s && decide (0 < m)), .slice p' m cap'] 58)) := by
  have hg := World.grownBy_alloc w (.cells #[.bool (s && decide (0 < m)), .slice p' m cap'] 58) none
  have hv : V Bw f 0 n = V Bw f 0 m := V_pad (fun j h1 h2 => by simpa using q5 j h1 h2) q1
  refine ⟨_, rfl, ⟨s && decide (0 < m), .slice p' m cap', V Bw f 0 n, rfl, ⟨p', m, cap', f, rfl, q2, q3, ?_, fun j hj => hf j (by omega), q4, hv.symm⟩, fun h => ?_, ?_⟩, hg⟩
  · by_cases e : m = 0
    · exact .inl e
    · have h2 := (h.pre q1).grown hg (by simp)
      rw [← q7 (by omega)] at h2; exact h2
  · rw [hv]; exact (num_len q4).1 (by simp at h; exact h.2)
  · rw [hv]
    by_cases e : 0 < m
    · cases s <;> simp [sgn, e]
    · obtain rfl : m = 0 := by omega
      cases s <;> simp [sgn, V]

def ValPost (v : Value) (w : World) (e : Ending) (w' : World) : Prop := e = .returned v ∧ w.grownBy w' none
theorem int_open {w : World} {x : Value} {Z : Int} (h : IsInt w x Z) : ∃ s p n cap f, x = .agg #[.bool s, .slice p n cap] ∧ n ≤ cap ∧ cap ≤ maxLen ∧ At .u64 w p n f ∧ (∀ j, j < n → f j < Bw) ∧ (n = 0 ∨ f (n - 1) ≠ 0) ∧ (s = true → 0 < n) ∧ Z = sgn s (V Bw f 0 n) := by
  obtain ⟨s, v, N, rfl, ⟨p, n, cap, f, rfl, h1, h2, h3, h4, h5, rfl⟩, h6, h7⟩ := h
  exact ⟨s, p, n, cap, f, rfl, h1, h2, h3, h4, h5, fun e => num_pos (h6 e), h7⟩
theorem top1 (w : World) (o1 : Obj) : (w.alloc o1).heap[w.heap.size]? = some o1 := heap_alloc_new w o1
theorem int_parts {w : World} {x : Value} {Z : Int} (h : IsInt w x Z) : ∃ s p n cap, x = .agg #[.bool s, .slice p n cap] ∧ Hid (IsInt w (.agg #[.bool s, .slice p n cap]) Z) := by
  obtain ⟨s, v, N, rfl, hn, r⟩ := h
  obtain ⟨p, n, cap, f, rfl, q⟩ := hn
  exact ⟨s, p, n, cap, rfl, s, _, N, rfl, ⟨p, n, cap, f, rfl, q⟩, r⟩

theorem At.off {k : IntKind} {w w' : World} {p : Option Addr} {n r : Nat} {f : Nat → Nat} (h : At k w p n f) (hn : ∀ o x, w.cell? ⟨r, o, none⟩ ≠ some (.int k x)) (hs : w.heap.size ≤ w'.heap.size) (hc : ∀ b o, b ≠ r → w'.cell? ⟨b, o, none⟩ = w.cell? ⟨b, o, none⟩) : At k w' p n f := by
  rcases h with h | ⟨g, off, rfl, hg, hcell⟩
  · exact .inl h
  · by_cases hn0 : n = 0
    · exact .inl hn0
    · have hgr : g ≠ r := by
        intro e; subst e
        exact hn _ _ (hcell 0 (by omega))
      exact .inr ⟨g, off, rfl, Nat.lt_of_lt_of_le hg hs, fun j hj => (hc g _ hgr).trans (hcell j hj)⟩

theorem Num.off {w w' : World} {v : Value} {N r : Nat} (h : Num w v N) (hn : ∀ o x, w.cell? ⟨r, o, none⟩ ≠ some (.int .u64 x)) (hs : w.heap.size ≤ w'.heap.size) (hc : ∀ b o, b ≠ r → w'.cell? ⟨b, o, none⟩ = w.cell? ⟨b, o, none⟩) : Num w' v N := by
  obtain ⟨p, n, cap, f, rfl, h1, h2, h3, r⟩ := h
  exact ⟨p, n, cap, f, rfl, h1, h2, h3.off hn hs hc, r⟩

theorem box_cells {w : World} {r : Nat} {b0 : Bool} {T : TypeId} {q : Option Addr} {l c : Nat} (hb : w.heap[r]? = some (.cells #[.bool b0, .slice q l c] T (0, 0))) (k : IntKind) : ∀ o x, w.cell? ⟨r, o, none⟩ ≠ some (.int k x) := by
  intro o x h
  rw [cell_of_row w r o _ T (0, 0) hb] at h
  match o, h with
  | 0, h => simp at h
  | 1, h => simp at h
  | o + 2, h => simp at h

theorem ret_box {w W w3 : World} {r : Nat} {b0 : Bool} {T : TypeId} {s : Bool} {p : Option Addr} {n c : Nat} {Z : Int} (hb : W.heap[r]? = some (.cells #[.bool b0, .slice none 0 0] T (0, 0))) (hg : W.grownBy w3 none) (hx : IsInt w3 (.agg #[.bool s, .slice p n c]) Z)
    (h0 : w.grownBy W none) (hr : w.heap.size ≤ r) :
    IntPost Z w (.returned (.agg #[.bool s, .slice p n c])) ((w3.setCell ⟨r, 0, none⟩ (.bool s)).setCell ⟨r, 1, none⟩ (.slice p n c)) := by
  have hrW := (Array.getElem?_eq_some_iff.1 hb).1
  have hb3 := (hg.block r hrW (by simp)).trans hb
  refine ⟨_, rfl, ?_, below_gb (gb_new (gb_below (gb_trans h0 hg)) hr (gb_set (gb_set (gb_refl _ _) _) _))⟩
  obtain ⟨s', v', N, he, hn, h1, h2⟩ := hx
  refine ⟨s', v', N, he, hn.off (box_cells hb3 _) (by simp [World.setCell]) (fun b o hbr => ?_), h1, h2⟩
  have e1 : ((w3.setCell ⟨r, 0, none⟩ (.bool s)).setCell ⟨r, 1, none⟩ (.slice p n c)).heap[b]? = w3.heap[b]? := by
    rw [Below.heap_setCell _ _ _ _ (by simpa using hbr), Below.heap_setCell _ _ _ _ (by simpa using hbr)]
  exact World.cell?_of_block (w := w3) e1
theorem ret_cells {W w3 : World} {r : Nat} {b0 : Bool} {T : TypeId} {s : Bool} {p : Option Addr} {n c : Nat} (hb : W.heap[r]? = some (.cells #[.bool b0, .slice none 0 0] T (0, 0))) (hg : W.grownBy w3 none) :
    (w3.setCell ⟨r, 0, none⟩ (.bool s)).cell? ⟨r, 0, none⟩ = some (.bool s) ∧ ((w3.setCell ⟨r, 0, none⟩ (.bool s)).setCell ⟨r, 1, none⟩ (.slice p n c)).cell? ⟨r, 1, none⟩ = some (.slice p n c) := by
  have hrW := (Array.getElem?_eq_some_iff.1 hb).1
  have hb3 := (hg.block r hrW (by simp)).trans hb
  have h1 : (w3.setCell ⟨r, 0, none⟩ (.bool s)).heap[r]? = some (.cells #[.bool s, .slice none 0 0] T (0, 0)) := by
    simp only [World.setCell, Array.getElem?_modify, hb3, if_true, Option.map_some]; rfl
  have h2 : ((w3.setCell ⟨r, 0, none⟩ (.bool s)).setCell ⟨r, 1, none⟩ (.slice p n c)).heap[r]? = some (.cells #[.bool s, .slice p n c] T (0, 0)) := by
    rw [World.setCell]
    simp only [Array.getElem?_modify, h1, if_true, Option.map_some]; rfl
  exact ⟨by rw [cell_of_row _ r 0 _ T (0, 0) h1]; rfl, by rw [cell_of_row _ r 1 _ T (0, 0) h2]; rfl⟩
end Go.Proofs.YtmlcpihedmmlfaaGreatDoor.Zd
namespace Go.Proofs.YtmlcpihedmmlfaaGreatDoor.Zd
open Go.RowKit Mx

theorem digits_w (p : Option Addr) (n cap : Nat) (f : Nat → Nat) (w : World) (h3 : At .u64 w p n f) (h4 : ∀ j, j < n → f j < Bw) (h5 : n = 0 ∨ f (n - 1) ≠ 0) (h0 : 0 < n) (hL : V Bw f 0 n < Lim) : Calls Tryz.prog 125 #[.slice p n cap] w (DigPost (V Bw f 0 n) w) := by
  have hn := lim_len h5 hL
  unfold LimN at hn
  exact digitsFromLast_w p n cap f w hn h3 h4 h5 h0

theorem nd_small {N : Nat} (h : N < Lim) : nd N ≤ 6400000 := by
  rcases Nat.lt_or_ge 6400000 (nd N) with hlt | hge
  · exfalso
    have hN : N ≠ 0 := by intro e; subst e; rw [nd, dif_pos rfl] at hlt; omega
    have h1 := nd_le N hN
    have h2 : 2 ^ (nd N - 1) ≤ 10 ^ (nd N - 1) := Nat.pow_le_pow_left (by omega) _
    have h3 : Lim = 2 ^ (64 * LimN) := by unfold Lim; rw [Nat.pow_mul, show (2 : Nat) ^ 64 = Bw from rfl]
    have h4 : 2 ^ (64 * LimN) ≤ 2 ^ (nd N - 1) := Nat.pow_le_pow_right (by omega) (by unfold LimN; omega)
    omega
  · exact hge

theorem decL_len (N : Nat) : (decL N).length = nd N := by simp [decL]
theorem dig_lt (N j : Nat) : dig N j < 10 := Nat.mod_lt _ (by omega)
theorem decL_get (N j : Nat) (h : j < (decL N).length) : (decL N)[j].toNat = 48 + dig N (nd N - 1 - j) := by
  have := dig_lt N (nd N - 1 - j)
  simp [decL]
  omega

theorem txt_pos {N : Nat} (h : N ≠ 0) : txtL (N : Int) = decL N := by
  unfold txtL
  rw [if_neg (by omega), if_neg (by omega)]; simp
theorem txt_neg {N : Nat} (h : N ≠ 0) : txtL (-(N : Int)) = 45 :: decL N := by
  unfold txtL
  rw [if_neg (by omega), if_pos (by omega)]; simp

theorem conv_run (w : World) (base g cap n : Nat) (f : Nat → Nat) (l : List UInt8) (h : Own .u8 5 w base (.slice (some ⟨g, 0, none⟩) n cap) n f) (hl : l.length = n) (hf : ∀ j (hj : j < l.length), l[j].toNat = f j) :
    (convert 99 9 (.slice (some ⟨g, 0, none⟩) n cap)).run Tryz.prog w = .ok (.string ⟨l.toArray⟩) w := by
  have := run_convert_bytes_back (P := Tryz.prog) w 99 9 5 ⟨g, 0, none⟩ cap l Tryz.underlying99 Tryz.underlying5 Tryz.underlying9 (fun j hj => by
    rw [addr_add, Nat.zero_add, h.cell (by omega), hf j hj])
  rwa [hl] at this

theorem neg_bytes {N : Nat} {fd : Nat → Nat} (hF : ∀ j, j < nd N → fd j = 48 + dig N j) : ∀ j (hj : j < (45 :: decL N).length), (45 :: decL N)[j].toNat = upd fd (nd N) 45 (nd N + 1 - 1 - j) := by
  intro j hj
  rw [List.length_cons, decL_len] at hj
  match j with
  | 0 => simp [upd]
  | j + 1 =>
    rw [upd_ne (by omega), List.getElem_cons_succ, decL_get, hF _ (by omega)]
    congr 2; omega

set_option maxHeartbeats 2000000 in
theorem String_c (x : Value) (Z : Int) (w : World) (h : IsInt w x Z) (hZ : Z.natAbs < Lim) : Calls Tryz.prog 86 #[x] w (ValPost (txt Z) w) := by
  obtain ⟨s, p, n, cap, f, rfl, h1, h2, h3, h4, h5, h6, rfl⟩ := int_open h
  have hg := World.grownBy_alloc w (.cells #[.bool s, .slice p n cap] 58) none
  have hab : (sgn s (V Bw f 0 n)).natAbs = V Bw f 0 n := by cases s <;> simp [sgn]
  rw [hab] at hZ
  by_cases hn : n = 0
  · subst hn
    have hz : sgn s (V Bw f 0 0) = 0 := by cases s <;> simp [sgn, V]
    rw [hz]
    have hfin : ValPost (txt 0) w (.returned (.string ⟨#[48]⟩)) (w.alloc (.cells #[.bool s, .slice p 0 cap] 58)) := ⟨rfl, hg⟩
    have HFIN := Lib.hid hfin
    clear hfin h h3 h4 h5 h6 hg hz hab hZ
    go_enter Tryz.func86, Tryz.ntmps86
    go_wp2
    go_ret
    exact HFIN.out
  · have hv := (num_len h5).1 (by omega)
    have hne : ((n : Int) == 0) = false := beq_eq_false_iff_ne.2 (by omega)
    have HD := Lib.hid (digits_w p n cap f _ (h3.grown hg (by simp)) h4 h5 (by omega) hZ)
    have HND := Lib.hid (nd_small hZ)
    have HV := Lib.hid hv
    have HG := Lib.hid hg
    generalize V Bw f 0 n = N at *
    clear h h3 h4 h5 h6 hg hab hZ hv
    cases s
    · go_enter Tryz.func86, Tryz.ntmps86
      go_wp2_with (first
        | (go_at_call 125; refine HD.out.mono ?_; rintro e w2 ⟨g, cp, fd, rfl, hO, hF, hg2⟩; have HO := Lib.hid hO; have HF := Lib.hid hF; have HG2 := Lib.hid hg2; obtain ⟨hcr, hfr⟩ := bcell hg2; have hsz2 := hg2.size; clear hO hF hg2)
        | (go_at_call 126; refine (reverse_c g cp (nd N) fd _ _ HO.out (by have := HND.out; omega)).mono ?_; rintro e w3 ⟨rfl, hO3, hG3⟩; have hcv := conv_run w3 _ g cp (nd N) _ (decL N) hO3 (decL_len N) (by intro j hj; rw [decL_get]; rw [decL_len] at hj; exact (HF.out _ (by omega)).symm); have HG3 := Lib.hid hG3; clear hO3 hG3))
      go_ret
      refine ⟨?_, gb_own (gb_trans HG.out HG2.out) HO.out (by simp) HG3.out⟩
      have : txt (sgn false (N : Int).toNat) = .string ⟨(decL N).toArray⟩ := by
        show Value.string ⟨(txtL ((N : Int).toNat : Int)).toArray⟩ = _
        rw [Int.toNat_natCast, txt_pos HV.out]
      rw [Int.toNat_natCast] at this
      rw [this]; rfl
    · go_enter Tryz.func86, Tryz.ntmps86
      go_wp2_with (first
        | (go_at_call 125; refine HD.out.mono ?_; rintro e w2 ⟨g, cp, fd, rfl, hO, hF, hg2⟩; have HO := Lib.hid hO; have HF := Lib.hid hF; have HG2 := Lib.hid hg2; obtain ⟨hcr, hfr⟩ := bcell hg2; have hsz2 := hg2.size; have hND := HND.out; clear hO hF hg2)
        | (at_builtin; refine wpList_app1 (k := .u8) (t := 99) (e := 5) (bytes := 1) Tryz.underlying99 info8 (by omega) rfl _ _ rfl _ (.slice (some ⟨g, 0, none⟩) (nd N) cp) (nd N) fd _ 45 rfl rfl HO.out rfl (by omega) hsz2 ?_))
      intro v' w3 hO' hG'
      obtain ⟨g', cp', rfl, hb', hs', hc', hm'⟩ : ∃ g' cp', v' = .slice (some ⟨g', 0, none⟩) (nd N + 1) cp' ∧ _ ≤ g' ∧ g' < w3.heap.size ∧ nd N + 1 ≤ cp' ∧ cp' ≤ maxLen := by
        rcases hO'.shape with ⟨_, h⟩ | h
        · omega
        · exact h
      have HO' := Lib.hid hO'; have HG' := Lib.hid (gb_own (gb_trans HG.out HG2.out) HO.out (by simp) hG')
      clear hO' hG' hcr hfr hc' hm'
      go_wp2_with (go_at_call 126; refine (reverse_c g' cp' (nd N + 1) _ _ _ HO'.out (by omega)).mono ?_; rintro e w4 ⟨rfl, hO4, hG4⟩; have hcv := conv_run w4 _ g' cp' (nd N + 1) _ (45 :: decL N) hO4 (by rw [List.length_cons, decL_len]) (neg_bytes HF.out); have HG4 := Lib.hid hG4; clear hO4 hG4)
      go_ret
      refine ⟨?_, gb_own HG'.out HO'.out (by simp) HG4.out⟩
      have : txt (sgn true (N : Int).toNat) = .string ⟨(45 :: decL N).toArray⟩ := by
        show Value.string ⟨(txtL (-((N : Int).toNat : Int))).toArray⟩ = _
        rw [Int.toNat_natCast, txt_neg HV.out]
      rw [Int.toNat_natCast] at this
      rw [this]; rfl
end Go.Proofs.YtmlcpihedmmlfaaGreatDoor.Zd
namespace Go.Proofs.YtmlcpihedmmlfaaGreatDoor.Zd
open Go.RowKit Mx

/-- Plain digits: one at least, no nought ahead of others. -/
def plain (l : List UInt8) : Bool := (l.all fun b => decide (48 ≤ b.toNat ∧ b.toNat ≤ 57)) && (decide (l = [48]) || (decide (l ≠ []) && decide (l.head? ≠ some 48)))

theorem idx_run (s : ByteArray) (k b : Nat) (h : k < s.data.toList.length) (hb : (s.data.toList[k]).toNat = b) : ∀ w : World, (Instr.index 9 (.string s) (.int .i64 (k : Int))).run Tryz.prog w = .ok (.int .u8 (b : Int)) w := by
  intro w
  have hs : s.data.toList.length = s.size := Array.length_toList
  rw [run_index_string w 9 s .i64 k Tryz.underlying9, dif_pos ⟨by omega, by omega⟩]
  have e : (s[((k : Int)).toNat]'(by omega)).toNat = b := by
    rw [← hb]; simp [ByteArray.getElem_eq_getElem_data]
  rw [e]

theorem toList_data (s : ByteArray) : s.toList = s.data.toList := ByteArray.toList_eq s

theorem byte_lt (x : UInt8) : x.toNat < 256 := x.toNat_lt

set_option maxHeartbeats 2000000 in
theorem plain_c (s : ByteArray) (w : World) (hs : s.data.toList.length ≤ 1000) : Calls Tryz.prog 146 #[.string s] w (fun e w' => e = .returned (.bool (plain s.data.toList)) ∧ w' = w) := by
  obtain ⟨n, hn⟩ : ∃ n, s.data.toList.length = n := ⟨_, rfl⟩
  have hsz : s.size = n := by rw [← hn]; exact (Array.length_toList).symm
  rw [hn] at hs
  have HN := Lib.hid hn
  clear hn
  go_enter Tryz.func146, Tryz.ntmps146
  go_wp2
  go_loopw [6] (fun i wr => ∃ k : Nat, k ≤ n ∧ i = .int .i64 k ∧ Hid (∀ j (hj : j < s.data.toList.length), j < k → 48 ≤ (s.data.toList[j]).toNat ∧ (s.data.toList[j]).toNat ≤ 57) ∧ wr = w) (fun i _ => n - (intOf i).toNat)
  case atStart => exact ⟨0, by omega, rfl, fun j _ h => by omega, rfl⟩
  case round =>
    obtain ⟨k, hk, rfl, HD, rfl⟩ := hrel
    by_cases hlt : k < n
    · obtain ⟨b, hb⟩ : ∃ b : Nat, (s.data.toList[k]'(by rw [HN.out]; exact hlt)).toNat = b := ⟨_, rfl⟩
      have hb2 : b < 256 := by rw [← hb]; exact byte_lt _
      have hix := idx_run s k b (by rw [HN.out]; exact hlt) hb
      have HB := Lib.hid hb
      clear hb
      have hbad : (b < 48 ∨ 57 < b) → plain s.data.toList = false := by
        intro h
        unfold plain
        have : (s.data.toList.all fun b => decide (48 ≤ b.toNat ∧ b.toNat ≤ 57)) = false := by
          rw [List.all_eq_false]
          exact ⟨_, List.getElem_mem (by rw [HN.out]; exact hlt), by rw [HB.out]; simp; omega⟩
        rw [this]; rfl
      have HBAD := Lib.hid hbad
      clear hbad
      by_cases h1 : b < 48
      · have d1 : decide ((b : Int) < 48) = true := decide_eq_true (by omega)
        go_wp2
        go_ret
        exact ⟨congrArg (fun b => Ending.returned (.bool b)) (HBAD.out (.inl h1)).symm, rfl⟩
      · have d1 : decide ((b : Int) < 48) = false := decide_eq_false (by omega)
        by_cases h2 : 57 < b
        · have d2 : decide ((57 : Int) < b) = true := decide_eq_true (by omega)
          go_wp2
          go_ret
          exact ⟨congrArg (fun b => Ending.returned (.bool b)) (HBAD.out (.inr h2)).symm, rfl⟩
        · have d2 : decide ((57 : Int) < b) = false := decide_eq_false (by omega)
          go_wp2
          go_roundw
          case rel =>
            refine ⟨k + 1, by omega, by go_num, fun j hj h => ?_, by first | rfl | trivial⟩
            rcases Nat.lt_or_ge j k with h | h
            · exact HD.out j hj h
            · obtain rfl : j = k := by omega
              rw [HB.out]; omega
          case measure => simp [intOf]; omega
    · obtain rfl : k = n := by omega
      have hall : (s.data.toList.all fun b => decide (48 ≤ b.toNat ∧ b.toNat ≤ 57)) = true := by
        rw [List.all_eq_true]
        intro x hx
        obtain ⟨j, hj, rfl⟩ := List.getElem_of_mem hx
        exact decide_eq_true (HD.out j hj (by rw [← HN.out]; exact hj))
      have hp : plain s.data.toList = (decide (s.data.toList = [48]) || (decide (s.data.toList ≠ []) && decide (s.data.toList.head? ≠ some 48))) := by
        unfold plain; rw [hall]; rfl
      have HP := Lib.hid hp
      clear hall hp
      by_cases hz : s.data.toList = [48]
      · have c1 : (s.toList == [48]) = true := by rw [toList_data, hz]; rfl
        have HZ := Lib.hid hz
        clear hz
        go_wp2
        go_ret
        exact ⟨congrArg (fun b => Ending.returned (.bool b)) (show true = plain s.data.toList by rw [HP.out, HZ.out]; rfl), by first | rfl | trivial⟩
      · have c1 : (s.toList == [48]) = false := by rw [toList_data]; exact beq_eq_false_iff_ne.2 hz
        by_cases h0 : k = 0
        · subst h0
          have hnil : s.data.toList = [] := List.eq_nil_of_length_eq_zero HN.out
          have c2 : s.toList.isEmpty = true := by rw [toList_data, hnil]; rfl
          have HZ := Lib.hid hnil
          clear hz hnil
          go_wp2
          go_ret
          exact ⟨congrArg (fun b => Ending.returned (.bool b)) (show false = plain s.data.toList by rw [HP.out, HZ.out]; rfl), by first | rfl | trivial⟩
        · have h0' : 0 < s.data.toList.length := by rw [HN.out]; omega
          have hnil : s.data.toList ≠ [] := List.ne_nil_of_length_pos h0'
          have c2 : s.toList.isEmpty = false := by rw [toList_data]; simpa using hnil
          have hpl : ∀ h : 0 < s.size, ((((s[0]'h).toNat : Nat) : Int) != 48) = plain s.data.toList := by
            intro h
            have e : s[0]'h = s.data.toList[0]'h0' := by simp [ByteArray.getElem_eq_getElem_data]
            rw [e, HP.out, decide_eq_false hz, decide_eq_true hnil, Bool.false_or, Bool.true_and, List.head?_eq_getElem?, List.getElem?_eq_getElem h0']
            generalize s.data.toList[0] = x
            by_cases hx : x = 48
            · subst hx; decide
            · rw [decide_eq_true (by simpa using hx)]
              exact bne_iff_ne.2 (fun e => hx (UInt8.toNat_inj.1 (by have : x.toNat = 48 := by omega
                                                                     rw [this]; rfl)))
          have HPL := Lib.hid hpl
          clear hz hnil hpl
          go_wp2
          go_ret
          exact ⟨congrArg (fun b => Ending.returned (.bool b)) (HPL.out _), by first | rfl | trivial⟩
end Go.Proofs.YtmlcpihedmmlfaaGreatDoor.Zd
