/- Classes: joined and found. -/
import Derived.Test.YtljpgmhgnfnbkaaBCls
import Derived.BigRegion
import Derived.Deep.DeepMust
namespace Go.Proofs.Ytljpgmhgnfnbkaa
open Go.RowKit Mx

def ValD (v : Value) (w : World) (e : Ending) (w' : World) : Prop := e = .returned v ∧ w' = w

set_option maxRecDepth 100000 in
set_option maxHeartbeats 2000000 in
theorem has_c {w : World} {q g n : Nat} {f : Nat → Nat} {cnt : Int} (x : Int) (h : Cls w q g n f cnt) : Calls Try.prog 69 #[.pointer (some ⟨q, 0, none⟩), .int .i64 x] w (ValD (.bool (decide (0 ≤ x ∧ x < n))) w) := by
  obtain ⟨c0, c1, f0, f1, cg⟩ := h.cells
  clear h cg f0 f1
  go_enter Try.func69, Try.ntmps69
  by_cases h0 : 0 ≤ x
  · have d1 : decide ((0 : Int) ≤ x) = true := decide_eq_true h0
    go_wp2_with fail
    go_ret
    refine ⟨?_, rfl⟩
    simp [h0]
  · have d1 : decide ((0 : Int) ≤ x) = false := decide_eq_false h0
    go_wp2_with fail
    go_ret
    refine ⟨?_, rfl⟩
    simp [h0]

set_option maxRecDepth 100000 in
theorem Count_c {w : World} {q g n : Nat} {f : Nat → Nat} {cnt : Int} (h : Cls w q g n f cnt) : Calls Try.prog 44 #[.pointer (some ⟨q, 0, none⟩)] w (ValD (.int .i64 cnt) w) := by
  obtain ⟨c0, c1, f0, f1, cg⟩ := h.cells
  clear h cg f0 f1
  go_enter Try.func44, Try.ntmps44
  go_wp2_with fail
  go_ret
  exact ⟨rfl, rfl⟩

def LeastPost (q g n : Nat) (f : Nat → Nat) (cnt : Int) (a : Nat) (w : World) (e : Ending) (w' : World) : Prop :=
  e = .returned (.int .i64 (root f a)) ∧ ∃ f', Cls w' q g n f' cnt ∧ (∀ j, root f' j = root f j) ∧ w.grownBy w' (some g)

set_option maxRecDepth 100000 in
set_option maxHeartbeats 2000000 in
theorem least_c {w : World} {q g n : Nat} {f : Nat → Nat} {cnt : Int} (a : Nat) (ha : a < n) (hn : n ≤ 65536) (h : Cls w q g n f cnt) : Calls Try.prog 70 #[.pointer (some ⟨q, 0, none⟩), .int .i64 a] w (LeastPost q g n f cnt a w) := by
  have HC0 := Lib.hid h
  clear h
  go_enter Try.func70, Try.ntmps70
  go_wp2_with fail
  go_loopw [1] (fun i cur => ∃ (k : Nat) (fk : Nat → Nat), i = .int .i64 k ∧ k < n ∧ Hid (Cls cur q g n fk cnt) ∧ Hid (∀ j, root fk j = root f j) ∧ Hid (root f k = root f a) ∧ Hid (w.grownBy cur (some g))) (fun i _ => (intOf i).toNat)
  case atStart => exact ⟨a, f, rfl, ha, HC0, fun j => rfl, rfl, gb_refl _ _⟩
  case round =>
    obtain ⟨k, fk, rfl, hk, HC, HR, HA, HG⟩ := hrel
    obtain ⟨c0, c1, f0, f1, cg⟩ := HC.out.cells
    have hle := HC.out.2.2.2
    have ck := cg k hk
    have hk2 : fk k < n := Nat.lt_of_le_of_lt (hle k) hk
    have ck2 := cg (fk k) hk2
    have hk3 : fk (fk k) < n := Nat.lt_of_le_of_lt (hle _) hk2
    by_cases he : fk k = k
    · have d1 : (((fk k : Nat) : Int) != ((k : Nat) : Int)) = false := by rw [he]; simp
      have HFIN : Hid (root f k = k) := Lib.hid (by rw [← HR.out k]; exact root_self he)
      clear hle ck2 cg
      go_wp2_with fail
      go_ret
      exact ⟨by rw [← HA.out, HFIN.out]; rfl, fk, HC.out, HR.out, HG.out⟩
    · have d1 : (((fk k : Nat) : Int) != ((k : Nat) : Int)) = true := bne_iff_ne.2 (by omega)
      have hlt : fk k < k := by have := hle k; omega
      have HN : Hid (Cls (wr.setCell ⟨g, k, none⟩ (.int .i64 ((fk (fk k) : Nat) : Int))) q g n (upd fk k (fk (fk k))) cnt) := Lib.hid (HC.out.lead (half_le hle k))
      have HLE := Lib.hid hle
      have HLT := Lib.hid (fun _ : Unit => hlt)
      have fk1 := f1 k
      clear hle cg hlt
      go_wp2_with fail
      go_region
      have HN2 : Hid (Cls (wr.setCell ⟨g, k, none⟩ (.int .i64 ((fk (fk k) : Nat) : Int))).drew q g n (upd fk k (fk (fk k))) cnt) := HN
      obtain ⟨W2, hW2⟩ : ∃ W2, W2 = (wr.setCell ⟨g, k, none⟩ (.int .i64 ((fk (fk k) : Nat) : Int))).drew := ⟨_, rfl⟩
      have HG2 : Hid (w.grownBy W2 (some g)) := Lib.hid (hW2 ▸ gb_drew (gb_set HG.out _))
      rw [← hW2] at HN2 ⊢
      obtain ⟨c0', -, -, -, cg'⟩ := HN2.out.cells
      have ck' := cg' k hk
      rw [upd_at] at ck'
      clear hW2 c0 c1 ck ck2 f0 f1 fk1 cg' HN
      go_wp2_with fail
      go_roundw
      case rel => exact ⟨fk (fk k), upd fk k (fk (fk k)), rfl, hk3, HN2, fun j => (root_half HLE.out k j).trans (HR.out j), by have e1 := HR.out (fk (fk k)); have e2 := HR.out k; rw [root_step HLE.out, root_step HLE.out] at e1; exact e1.symm.trans (e2.trans HA.out), HG2⟩
      case measure =>
        have h1 := HLT.out ()
        have h2 := HLE.out (fk k)
        simp [intOf]; omega

theorem Cls.bounds {w : World} {q g n : Nat} {f : Nat → Nat} {cnt : Int} (h : Cls w q g n f cnt) : q < w.heap.size ∧ g < w.heap.size := ⟨(Array.getElem?_eq_some_iff.1 h.1).1, h.2.1.lt⟩

def FindPost (q g n : Nat) (f : Nat → Nat) (cnt : Int) (x : Int) (w : World) (e : Ending) (w' : World) : Prop :=
  e = .returned (.tuple #[.int .i64 (if 0 ≤ x ∧ x < n then ((root f x.toNat : Nat) : Int) else 0), .int .i64 (if 0 ≤ x ∧ x < n then 0 else 12)]) ∧ ∃ f', Cls w' q g n f' cnt ∧ (∀ j, root f' j = root f j) ∧ w.grownBy w' (some g)

set_option maxRecDepth 100000 in
set_option maxHeartbeats 2000000 in
theorem Find_c {w : World} {q g n : Nat} {f : Nat → Nat} {cnt : Int} (x : Int) (hn : n ≤ 65536) (h : Cls w q g n f cnt) : Calls Try.prog 45 #[.pointer (some ⟨q, 0, none⟩), .int .i64 x] w (FindPost q g n f cnt x w) := by
  have HC := Lib.hid h
  have HH := Lib.hid (has_c x h)
  clear h
  go_enter Try.func45, Try.ntmps45
  by_cases hin : 0 ≤ x ∧ x < n
  · rw [decide_eq_true hin] at HH
    obtain ⟨a, rfl⟩ : ∃ a : Nat, x = a := ⟨x.toNat, by omega⟩
    have HL := Lib.hid (least_c a (by omega) hn HC.out)
    have HI := Lib.hid hin
    clear hin
    go_wp2_with (first | (go_at_call 69; refine HH.out.mono ?_; rintro e w2 ⟨rfl, rfl⟩) | (go_at_call 70; refine HL.out.mono ?_; rintro e w3 ⟨rfl, hp⟩; have HP := Lib.hid hp; clear hp))
    go_ret2
    exact ⟨by rw [if_pos HI.out, if_pos HI.out, Int.toNat_natCast]; rfl, HP.out⟩
  · rw [decide_eq_false hin] at HH
    have HI := Lib.hid hin
    clear hin
    go_wp2_with (go_at_call 69; refine HH.out.mono ?_; rintro e w2 ⟨rfl, rfl⟩)
    go_ret2
    exact ⟨by rw [if_neg HI.out, if_neg HI.out]; rfl, f, HC.out, fun j => rfl, gb_refl _ _⟩

/-- The classes behind a Join. -/
def joinR (f : Nat → Nat) (a b : Nat) (j : Nat) : Nat := if root f j = max (root f a) (root f b) then min (root f a) (root f b) else root f j

def JoinPost (q g n : Nat) (f : Nat → Nat) (cnt : Int) (a b : Nat) (w : World) (e : Ending) (w' : World) : Prop :=
  e = .returned (.tuple #[.bool (decide (root f a ≠ root f b)), .int .i64 0]) ∧ (∃ f', Cls w' q g n f' (if root f a = root f b then cnt else cnt - 1) ∧ ∀ j, root f' j = joinR f a b j) ∧ Fr2 (fun k => k = q ∨ k = g) w w'

theorem joinR_same {f : Nat → Nat} {a b : Nat} (h : root f a = root f b) (j : Nat) : joinR f a b j = root f j := by
  unfold joinR
  rw [h, Nat.max_self, Nat.min_self]
  split
  · rename_i h; exact h.symm
  · rfl

set_option maxRecDepth 100000 in
set_option maxHeartbeats 4000000 in
theorem Join_c {w : World} {q g n : Nat} {f : Nat → Nat} {cnt : Int} (a b : Nat) (ha : a < n) (hb : b < n) (hn : n ≤ 65536) (hcnt : -100000 ≤ cnt) (hcnt2 : cnt ≤ 100000) (h : Cls w q g n f cnt) :
    Calls Try.prog 42 #[.pointer (some ⟨q, 0, none⟩), .int .i64 a, .int .i64 b] w (JoinPost q g n f cnt a b w) := by
  have HC := Lib.hid h
  have hA : decide (0 ≤ (a : Int) ∧ (a : Int) < n) = true := decide_eq_true (by omega)
  have hB : decide (0 ≤ (b : Int) ∧ (b : Int) < n) = true := decide_eq_true (by omega)
  have HA := Lib.hid (has_c a h); have HB := Lib.hid (has_c b h)
  rw [hA] at HA; rw [hB] at HB
  have HL := Lib.hid (least_c a ha hn h)
  have hf0 := h.2.2.2
  have HRA := Lib.hid (Nat.lt_of_le_of_lt (root_le f a) ha); have HRB := Lib.hid (Nat.lt_of_le_of_lt (root_le f b) hb)
  have HFA := Lib.hid hf0
  clear h hA hB hf0
  go_enter Try.func42, Try.ntmps42
  go_wp2_with fail
  refine HA.out.mono ?_
  rintro e w2 ⟨rfl, rfl⟩
  go_wp2_with fail
  refine HB.out.mono ?_
  rintro e w3 ⟨rfl, rfl⟩
  go_wp2_with fail
  refine HL.out.mono ?_
  rintro e w4 ⟨rfl, f4, hc4, hr4, hg4⟩
  have HC4 := Lib.hid hc4; have HR4 := Lib.hid hr4; have HG4 := Lib.hid hg4
  clear hc4 hr4 hg4 HA HB HL HC
  go_wp2_with fail
  refine (least_c b hb hn HC4.out).mono ?_
  rintro e w5 ⟨rfl, f5, hc5, hr5, hg5⟩
  rw [HR4.out b]
  have hr : ∀ j, root f5 j = root f j := fun j => (hr5 j).trans (HR4.out j)
  have HR5 := Lib.hid hr; have HG5 := Lib.hid (gb_trans HG4.out hg5); have HC5 := Lib.hid hc5
  have hf5 := hc5.2.2.2
  clear hc5 hr5 hg5 hr HC4 HR4 HG4
  by_cases he : root f a = root f b
  · have d1 : (((root f a : Nat) : Int) == ((root f b : Nat) : Int)) = true := by rw [he]; simp
    have HE := Lib.hid he
    clear he
    go_wp2_with fail
    go_ret2
    refine ⟨by rw [decide_eq_false (by simp [HE.out])]; rfl, ⟨f5, by rw [if_pos HE.out]; exact HC5.out, fun j => (HR5.out j).trans (joinR_same HE.out j).symm⟩, Fr2.of HG5.out (fun k e => by simp at e; exact .inr e.symm)⟩
  · have d1 : (((root f a : Nat) : Int) == ((root f b : Nat) : Int)) = false := beq_eq_false_iff_ne.2 (by omega)
    obtain ⟨c0, c1, f0, f1, cg⟩ := HC5.out.cells
    have HE := Lib.hid he
    have hra := HRA.out; have hrb := HRB.out
    have hmx : max (root f a) (root f b) < n := by omega
    have cm := cg _ hmx
    have fm := f1 (max (root f a) (root f b))
    have hfix : ∀ j, f5 (root f j) = root f j := fun j => by rw [← HR5.out j]; exact root_fix hf5 j
    have hfa := hfix a; have hfb := hfix b
    have hlo : f5 (min (root f a) (root f b)) = min (root f a) (root f b) := by
      rcases Nat.le_total (root f a) (root f b) with h | h
      · rw [Nat.min_eq_left h]; exact hfa
      · rw [Nat.min_eq_right h]; exact hfb
    have hhi : f5 (max (root f a) (root f b)) = max (root f a) (root f b) := by
      rcases Nat.le_total (root f a) (root f b) with h | h
      · rw [Nat.max_eq_right h]; exact hfb
      · rw [Nat.max_eq_left h]; exact hfa
    have hlh : min (root f a) (root f b) < max (root f a) (root f b) := by omega
    have hj := root_join hf5 hlh hlo hhi
    have hjl := join_le hf5 (Nat.le_of_lt hlh)
    have HJ := Lib.hid hj
    have HN := Lib.hid (HC5.out.lead (a := max (root f a) (root f b)) hjl)
    have hmxi : max ((root f a : Nat) : Int) ((root f b : Nat) : Int) = ((max (root f a) (root f b) : Nat) : Int) := by omega
    have hmni : min ((root f a : Nat) : Int) ((root f b : Nat) : Int) = ((min (root f a) (root f b) : Nat) : Int) := by omega
    clear he hfix hfa hfb hlo hhi hlh hj hjl cg hra hrb
    obtain ⟨-, e1, e0, -, -⟩ := HN.out.cells
    have e2 := e0 1
    have HM := Lib.hid (HN.out.count (c' := cnt - 1))
    have hwr : IntKind.i64.wrap (cnt - 1) = cnt - 1 := IntWalk.i64_in _ (by omega)
    clear f0 f1 e0
    go_wp2_with fail
    go_ret2
    refine ⟨by rw [decide_eq_true HE.out]; rfl, ⟨_, by rw [if_neg HE.out]; exact HM.out, fun j => by rw [HJ.out j, HR5.out j]; rfl⟩, (Fr2.of HG5.out (fun k e => by simp at e; exact .inr e.symm)).trans ((Fr2.of (gb_set (gb_refl _ _) _) (fun k e => by simp at e; exact .inr e.symm)).trans (Fr2.of (gb_set (gb_refl _ _) _) (fun k e => by simp at e; exact .inl e.symm)))⟩
end Go.Proofs.Ytljpgmhgnfnbkaa
