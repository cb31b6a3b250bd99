/- Lemmas. -/
import Derived.Test.YtccokidhngdjnaaGreatDoorP33
import Derived.Test.YtccokidhngdjnaaGreatDoorP45
set_option linter.unusedVariables false
set_option linter.unusedSimpArgs false
namespace Go.Proofs.YtccokidhngdjnaaGreatDoor
open Go.RowKit

/-- The package's variable holds the signs. -/
def LaidS (w : World) : Prop := ∀ j v, (signs8.map strV)[j]? = some v → w.cell? ⟨0, j, none⟩ = some v
theorem LaidS.kept {w w' : World} (h : LaidS w) (hg : w.grownBy w' none) : LaidS w' := fun j v hj => hg.cell (h j v hj) (by simp)
theorem sizeS8 : (Tryz.prog.info? 80).map (·.size) = some (signs8.map strV).length := by kernel_rfl

/-- Where a text stands in the rest of a list, if it doesn't stand ahead. -/
theorem idx_at {L : List (List UInt8)} {k : Nat} {x : List UInt8} (hx : L[k]? = some x) (hb : ∀ j y, j < k → L[j]? = some y → y ≠ x) : L.idxOf x = k := by
  induction L generalizing k with
  | nil => simp at hx
  | cons a L ih =>
    match k, hx, hb with
    | 0, hx, _ => simp at hx; subst hx; simp
    | k + 1, hx, hb =>
      have ha : a ≠ x := hb 0 a (by omega) rfl
      have hbx : (a == x) = false := by simpa using ha
      rw [List.idxOf_cons, hbx, cond_false, ih (k := k) (by simpa using hx) (fun j y hj hy => hb (j + 1) y (by omega) (by simpa using hy))]
theorem binE_at {k : Nat} {x : List UInt8} (hx : signs8[k]? = some x) (hb : ∀ j y, j < k → signs8[j]? = some y → y ≠ x) : binE x = 7 + k := by
  unfold binE
  rw [idx_at hx hb, if_pos (by have := (List.getElem?_eq_some_iff.1 hx).1; exact this)]
theorem binE_none {x : List UInt8} (hb : ∀ j y, j < 14 → signs8[j]? = some y → y ≠ x) : binE x = 0 := by
  unfold binE
  rw [if_neg]
  intro h
  have h1 : signs8.idxOf x < signs8.length := h
  have h2 := List.getElem_idxOf h1
  exact hb _ _ h (List.getElem?_eq_getElem h1) h2

set_option maxRecDepth 100000 in
set_option maxHeartbeats 4000000 in
theorem binary_c (s : ByteArray) (w : World) (h : LaidS w) : Calls Tryz.prog 96 #[.string s] w (ValPost (.int .i64 (binE s.data.toList : Nat)) w) := by
  have hr : w.rangeAt 0 0 (signs8.map strV) := fun j v hj => by rw [Nat.zero_add]; exact h j v hj
  have HRG := Lib.hid hr
  clear hr h
  have HSL := Lib.hid (toList_data s)
  go_enter Tryz.func96, Tryz.ntmps96
  go_wp2_with (refine wpList_load_mid rfl 80 _ rfl 0 0 rfl (signs8.map strV) _ HRG.out Tryz.underlying80 rfl sizeS8 ?_)
  have HA : Hid (ArrIs (.agg (signs8.map strV).toArray) signs8) := Lib.hid rfl
  generalize Value.agg (signs8.map strV).toArray = A at *
  go_wp2
  go_loopw [6] (fun i wr => ∃ k : Nat, k ≤ 14 ∧ i = .int .i64 k ∧ Hid (∀ j y, j < k → signs8[j]? = some y → y ≠ s.data.toList) ∧ wr = w) (fun i _ => 14 - (intOf i).toNat)
  case atStart => exact ⟨0, Nat.zero_le _, rfl, Lib.hid (fun j y hj => by omega), rfl⟩
  case round =>
    obtain ⟨k, hk, rfl, HC, rfl⟩ := hrel
    by_cases hlt : k < 14
    · have d1 : decide ((k : Int) < 14) = true := decide_eq_true (by omega)
      have d1' : decide (k < 14) = true := decide_eq_true hlt
      obtain ⟨x, hx⟩ : ∃ x, signs8[k]? = some x := ⟨signs8[k]'hlt, List.getElem?_eq_getElem _⟩
      have hrun := HA.out.run (t := 80) (n := 14) Tryz.underlying80 rfl hx
      obtain ⟨y, hy⟩ : ∃ y : ByteArray, (⟨x.toArray⟩ : ByteArray) = y := ⟨_, rfl⟩
      have hyl : y.toList = x := by rw [toList_data, ← hy]
      rw [hy] at hrun
      have hw : IntKind.i64.wrap (7 + (k : Int)) = ((7 + k : Nat) : Int) := by rw [IntWalk.i64_in _ (by omega)]; omega
      by_cases he : x = s.data.toList
      · have d2 : (s.toList == y.toList) = true := by rw [hyl, HSL.out, he]; simp
        have HR : Hid (binE s.data.toList = 7 + k) := Lib.hid (by rw [← he]; exact binE_at hx (fun j z hj hz => by rw [he]; exact HC.out j z hj hz))
        clear hx he hyl hy
        go_wp2
        go_ret
        exact ⟨by rw [HR.out]; show Ending.returned (.int .i64 (7 + (k : Int))) = _; rw [show (((7 + k : Nat)) : Int) = 7 + (k : Int) by omega], gb_refl _ _⟩
      · have d2 : (s.toList == y.toList) = false := by rw [hyl, HSL.out]; simpa using fun e => he e.symm
        have HR : Hid (∀ j y, j < k + 1 → signs8[j]? = some y → y ≠ s.data.toList) := Lib.hid (fun j z hj hz => by
          by_cases e : j = k
          · subst e; rw [hx] at hz; cases hz; exact he
          · exact HC.out j z (by omega) hz)
        clear hx he hyl hy
        go_wp2
        go_roundw
        case rel => exact ⟨k + 1, by omega, by go_num, HR, by first | rfl | trivial⟩
        case measure => (simp [intOf] <;> omega)
    · obtain rfl : k = 14 := by omega
      have HR : Hid (binE s.data.toList = 0) := Lib.hid (binE_none HC.out)
      go_wp2
      go_ret
      exact ⟨by rw [HR.out]; rfl, gb_refl _ _⟩

abbrev BldI (bb : Nat) (out : List Value) (w : World) : Prop := Lib.IsBuilder 107 5 bb bb out w
theorem WrAt.bld {S : Nat → Prop} {B b bb : Nat} {w : World} {R : List (List Value)} {out : List Value} (h : WrAt S B b w R) (hp : BldI bb out w) :
    ∃ S2 : Nat → Prop, (∀ k, S k → S2 k) ∧ WrAt S2 B b w R ∧ ∀ w', Fr2 (fun k => ¬ S2 k) w w' → BldI bb out w' := by
  have hv : ∃ p v, w.heap[bb]? = some (.cells #[p, v] 107 (0, 0)) ∧ w.ownsRow bb 5 1 v out.length out ∧ v.ownBlock ≠ some bb ∧ (p = .pointer none ∨ p = .pointer (some ⟨bb, 0, none⟩)) := by
    rcases hp with ⟨-, v, h1, h2, h3⟩ | ⟨-, v, h1, h2, h3⟩
    · exact ⟨_, v, h1, h2, h3, .inl rfl⟩
    · exact ⟨_, v, h1, h2, h3, .inr rfl⟩
  obtain ⟨p, v, h1, h2, h3, h4⟩ := hv
  obtain ⟨u, hb, hO, hbB, hB, hSb, hSv, hSs⟩ := h
  refine ⟨fun k => S k ∨ k = bb ∨ v.ownBlock = some k, fun k hk => .inl hk, ⟨u, hb, hO, hbB, hB, fun e => ?_, fun k hk e => ?_, fun k hk => ?_⟩, fun w' hf => ?_⟩
  · rcases e with e | e | e
    · exact hSb e
    · subst e; rw [hb] at h1; simp at h1
    · exact Lib.ownBlock_ne h2 hb (by decide) e
  · obtain ⟨⟨-, ho⟩, -⟩ := hO
    rcases ho with ⟨rfl, -⟩ | ⟨g, cap, cur, rfl, -, hg, -⟩
    · simp [Value.ownBlock] at hk
    · have e2 : g = k := Option.some.inj (show some g = some k from hk)
      subst e2
      rcases e with e | e | e
      · exact hSv _ rfl e
      · subst e; rw [hg] at h1; simp at h1
      · exact Lib.ownBlock_ne h2 hg (by decide) e
  · rcases hk with hk | hk | hk
    · exact hSs k hk
    · subst hk; exact hlt h1
    · exact (h2.lt k hk).2
  · have h5 : w'.heap[bb]? = some (.cells #[p, v] 107 (0, 0)) := by rw [hf.block bb (hlt h1) (fun e => e (.inr (.inl rfl)))]; exact h1
    have h6 : w'.ownsRow bb 5 1 v out.length out := by
      refine ⟨h2.1, h2.2.imp id fun ⟨g, cap, cur, e, hh, hg, r⟩ => ⟨g, cap, cur, e, hh, ?_, r⟩⟩
      rw [hf.block g (hlt hg) (fun e9 => e9 (.inr (.inr (by rw [e]; rfl))))]; exact hg
    rcases h4 with rfl | rfl
    · exact .inl ⟨Nat.le_refl _, v, h5, h6, h3⟩
    · exact .inr ⟨Nat.le_refl _, v, h5, h6, h3⟩
theorem WrAt.wrote {S : Nat → Prop} {B b bb : Nat} {w w' : World} {R : List (List Value)} (h : WrAt S B b w R) (hk : OKept bb w w') (hl : Below bb w w') (hb9 : (w.heap[bb]?).isSome → ∃ p v, w.heap[bb]? = some (.cells #[p, v] 107 (0, 0))) : WrAt S B b w' R := by
  obtain ⟨u, hb, hO, hbB, hB, hSb, hSv, hSs⟩ := h
  have hbb : b ≠ bb := fun e => by subst e; obtain ⟨p, v, h⟩ := hb9 (by rw [hb]; rfl); rw [hb] at h; simp at h
  refine ⟨u, hk b _ _ hb (by decide) hbb, ⟨⟨hO.1.1, hO.1.2.imp id fun ⟨g, cap, cur, e, hh, hg, r⟩ => ⟨g, cap, cur, e, hh, ?_, r⟩⟩, hO.2⟩, hbB, Nat.le_trans hB hl.size, hSb, hSv, fun k hk => Nat.lt_of_lt_of_le (hSs k hk) hl.size⟩
  exact hk g _ _ hg (by decide) (fun e9 => by subst e9; obtain ⟨p, v, h⟩ := hb9 (by rw [hg]; rfl); rw [hg] at h; simp at h)
theorem BldI.cells {bb : Nat} {out : List Value} {w : World} (hp : BldI bb out w) : ∃ p v, w.heap[bb]? = some (.cells #[p, v] 107 (0, 0)) := by
  rcases hp with ⟨-, v, h1, -⟩ | ⟨-, v, h1, -⟩
  · exact ⟨_, v, h1⟩
  · exact ⟨_, v, h1⟩
theorem fr_below {S : Nat → Prop} {bb : Nat} {w w' : World} (h : Below bb w w') (hS : ∀ k, S k → k < bb) : Fr2 (fun k => ¬ S k) w w' :=
  ⟨h.os, h.tape, h.output, h.size, fun k _ hn => h.block k (Classical.byContradiction fun e => hn (fun hk => e (hS k hk)))⟩

mutual
def fitS : Sx → Prop
  | .mk op nm md nu _ ks _ => (1 ≤ op ∧ op ≤ 24 ∧ countB op ks.length = true ∧ nm.length ≤ 60000 ∧ md.length ≤ 60000 ∧ nu.natAbs < Zd.Lim) ∧ fitSs ks
def fitSs : List Sx → Prop
  | [] => True
  | x :: l => fitS x ∧ fitSs l
end
theorem fitSs_mem : ∀ {l : List Sx} {x : Sx}, fitSs l → x ∈ l → fitS x
  | [], x, _, h => by cases h
  | y :: l, x, hs, h => by
    simp only [fitSs] at hs
    rcases List.mem_cons.1 h with h | h
    · subst h; exact hs.1
    · exact fitSs_mem hs.2 h
def fitP : Pc → Prop
  | .bs _ => True
  | .ex x _ => fitS x
theorem fit_nil : fitS nilS := by
  simp only [nilS, fitS, fitSs]
  exact ⟨⟨by omega, by omega, by decide, by simp, by simp, by unfold Zd.Lim; exact Nat.pow_pos (by unfold Zd.Bw; omega)⟩, trivial⟩
theorem fit_kid {ks : List Sx} (h : fitSs ks) (j : Nat) : fitS (ks.getD j nilS) := by
  rw [List.getD_eq_getElem?_getD]
  cases hx : ks[j]? with
  | none => exact fit_nil
  | some x => exact fitSs_mem h (List.mem_of_getElem? hx)
theorem fit_args : ∀ {l : List Sx}, fitSs l → ∀ p ∈ argsP l, fitP p
  | [], h, p, hp => by simp [argsP] at hp
  | [x], h, p, hp => by
    simp only [argsP, List.mem_cons, List.not_mem_nil, or_false] at hp
    subst hp; simp only [fitSs] at h; exact h.1
  | x :: y :: l, h, p, hp => by
    have h2 : fitS x ∧ fitSs (y :: l) := by simp only [fitSs] at h ⊢; exact h
    simp only [argsP, List.mem_cons] at hp
    rcases hp with rfl | rfl | hp
    · exact h2.1
    · trivial
    · exact fit_args h2.2 p (by simpa [argsP] using hp)
theorem fit_ite {c : Prop} [Decidable c] {a b : List Pc} (ha : ∀ p ∈ a, fitP p) (hb : ∀ p ∈ b, fitP p) : ∀ p ∈ (if c then a else b), fitP p := by
  split
  · exact ha
  · exact hb
theorem fit_cons {a : Pc} {l : List Pc} (ha : fitP a) (hl : ∀ p ∈ l, fitP p) : ∀ p ∈ a :: l, fitP p := fun p hp => by
  rcases List.mem_cons.1 hp with rfl | hp
  · exact ha
  · exact hl p hp
theorem fit_app {a b : List Pc} (ha : ∀ p ∈ a, fitP p) (hb : ∀ p ∈ b, fitP p) : ∀ p ∈ a ++ b, fitP p := fun p hp => (List.mem_append.1 hp).elim (ha p) (hb p)
theorem fit_none : ∀ p ∈ ([] : List Pc), fitP p := fun p hp => by cases hp
theorem fit_bare {op : Int} {nm md : List UInt8} {nu : Int} {ys : Bool} {ks : List Sx} {ps : Int} (h : fitSs ks) : ∀ p ∈ bareP (.mk op nm md nu ys ks ps), fitP p := by
  have hb : ∀ s, fitP (.bs s) := fun _ => trivial
  have he : ∀ j n, fitP (.ex (ks.getD j nilS) n) := fun j n => fit_kid h j
  simp only [bareP]
  repeat' (first | exact fit_none | exact hb _ | exact he _ _ | exact fit_args h | refine fit_ite ?_ ?_ | refine fit_cons ?_ ?_ | refine fit_app ?_ ?_)
theorem fit_open {x : Sx} (h : fitS x) (least : Nat) : ∀ p ∈ openP x least, fitP p := by
  cases x with
  | mk op nm md nu ys ks ps =>
    simp only [fitS] at h
    have hb := fit_bare (op := op) (nm := nm) (md := md) (nu := nu) (ys := ys) (ps := ps) h.2
    intro p hp
    unfold openP at hp
    split at hp
    · rcases List.mem_append.1 hp with hp | hp
      · rcases List.mem_cons.1 hp with hp | hp
        · subst hp; trivial
        · exact hb p hp
      · rw [List.mem_singleton] at hp; subst hp; trivial
    · exact hb p hp

theorem WrAt.weak {S S2 : Nat → Prop} {B b : Nat} {w : World} {rows : List (List Value)} (h : WrAt S2 B b w rows) (hS : ∀ k, S k → S2 k) : WrAt S B b w rows := by
  obtain ⟨v, hb, hO, hbB, hB, hSb, hSv, hSs⟩ := h
  exact ⟨v, hb, hO, hbB, hB, fun e => hSb (hS _ e), fun k hk e => hSv k hk (hS _ e), fun k hk => hSs k (hS _ hk)⟩
theorem WrAt.len0 {S : Nat → Prop} {B b : Nat} {w : World} {rows : List (List Value)} (h : WrAt S B b w rows) : ∃ p c, w.cell? ⟨b, 0, none⟩ = some (.slice p rows.length c) := by
  obtain ⟨v, hb, hO, -⟩ := h
  obtain ⟨p, c, rfl, -⟩ := hO.is
  exact ⟨p, c, by rw [cell_of_row w b 0 _ _ (0, 0) hb]; rfl⟩
def RevW (S F : Nat → Prop) (B b bb : Nat) (R0 R1 : List (List Value)) (l : List Pc) (out : List Value) (w : World) (e : Ending) (w' : World) : Prop := e = .returned (.tuple #[]) ∧ WrAt S B b w' (R0 ++ R1.reverse) ∧ PcsAt F w' l.reverse R1.reverse ∧ BldI bb out w' ∧ Fr2 (fun k => ¬ S k) w w'
theorem rev_w (S F : Nat → Prop) (B b bb g n cap cap' : Nat) (R0 R1 : List (List Value)) (l : List Pc) (out : List Value) (w : World) (h : WrAt S B b w (R0 ++ R1)) (hp : PcsAt F w l R1) (hF : ∀ k, F k → S k) (hbl : BldI bb out w) (c0 : w.cell? ⟨b, 0, none⟩ = some (.slice (some ⟨g, 0, none⟩) n cap)) (hl : R1.length ≤ 1000000) :
    Calls Tryz.prog 49 #[.slice (some ⟨g, R0.length * 3, none⟩) R1.length cap'] w (RevW S F B b bb R0 R1 l out w) := by
  obtain ⟨d, rfl, hd⟩ := pcs_enc hp
  obtain ⟨S2, hS2, hW2, hk⟩ := h.bld hbl
  have := rev_c9 S2 B b R0 d g n cap cap' w hW2 c0 (by rw [List.length_map] at hl; exact hl)
  rw [List.length_map]
  refine this.mono ?_
  rintro e w' ⟨rfl, hw, hf⟩
  have hf2 : Fr2 (fun k => ¬ S k) w w' := hf.mono (fun k e h => e (hS2 k h))
  rw [List.map_reverse] at hw
  exact ⟨rfl, hw.weak hS2, (hp.rev).same hf2 (fun k hk e => e (hF k hk)), hk _ hf, hf2⟩
def OpenW (S F : Nat → Prop) (B b bb : Nat) (rows : List (List Value)) (ps : List Pc) (out : List Value) (w : World) (e : Ending) (w' : World) : Prop := e = .returned (.tuple #[]) ∧ ∃ R, WrAt S B b w' (rows ++ R) ∧ PcsAt F w' ps R ∧ BldI bb out w' ∧ Fr2 (fun k => ¬ S k) w w'
theorem open_w (S F : Nat → Prop) (B b bb : Nat) (rows : List (List Value)) (x : Sx) (least g o : Nat) (out : List Value) (w : World) (h : WrAt S B b w rows) (hl : rows.length ≤ 600000) (hp : PcAt F w (.ex x least) (rowX g o ((least : Nat) : Int))) (hfit : fitS x) (hF : ∀ k, F k → S k) (hSg : S 3) (hla : LaidW w) (hbl : BldI bb out w) :
    Calls Tryz.prog 51 #[.pointer (some ⟨b, 0, none⟩), .pointer (some ⟨g, o, none⟩), .int .i64 least] w (OpenW S F B b bb rows (openP x least) out w) := by
  obtain ⟨S2, hS2, hW2, hk⟩ := h.bld hbl
  obtain ⟨g', o', q, he, hFg, hgw, hx, hc⟩ := hp
  simp only [rowX, List.cons.injEq, Value.pointer.injEq, Option.some.injEq, Addr.mk.injEq, and_true, true_and] at he
  obtain ⟨rfl, rfl⟩ := he
  cases x with
  | mk op nm md nu ys ks ps =>
    simp only [fitS] at hfit
    obtain ⟨⟨a1, a2, a3, a4, a5, a6⟩, -⟩ := hfit
    refine (open_c9 S2 F B b rows g o least (.mk op nm md nu ys ks ps) q w hW2 hl (fun k hk => hS2 k (hF k hk)) (hS2 _ hSg) hla hx (hS2 _ (hF _ hFg)) hc a1 a2 a3 ⟨a4, a5, a6⟩).mono ?_
    rintro e w' ⟨rfl, R, hw, hp, hf⟩
    exact ⟨rfl, R, hw.weak hS2, hp, hk _ hf, hf.mono (fun k e h => e (hS2 k h))⟩

theorem pop_w {S F : Nat → Prop} {B b bb g n cap : Nat} {w : World} {R0 : List (List Value)} {q : List Value} {l : List Pc} {p : Pc} {out : List Value} (h : WrAt S B b w (R0 ++ [q])) (hp0 : PcsAt F w l R0) (hp1 : PcAt F w p q) (hF : ∀ k, F k → S k) (hbl : BldI bb out w) (c0 : w.cell? ⟨b, 0, none⟩ = some (.slice (some ⟨g, 0, none⟩) n cap)) :
    WrAt S B b ((w.setCell ⟨b, 0, none⟩ (.slice (some ⟨g, 0, none⟩) R0.length cap)).alloc (.cells q.toArray 104)) R0 ∧ PcsAt F ((w.setCell ⟨b, 0, none⟩ (.slice (some ⟨g, 0, none⟩) R0.length cap)).alloc (.cells q.toArray 104)) l R0 ∧ PcAt F ((w.setCell ⟨b, 0, none⟩ (.slice (some ⟨g, 0, none⟩) R0.length cap)).alloc (.cells q.toArray 104)) p q ∧ BldI bb out ((w.setCell ⟨b, 0, none⟩ (.slice (some ⟨g, 0, none⟩) R0.length cap)).alloc (.cells q.toArray 104)) ∧ Fr2 (fun k => ¬ S k) w ((w.setCell ⟨b, 0, none⟩ (.slice (some ⟨g, 0, none⟩) R0.length cap)).alloc (.cells q.toArray 104)) ∧ ((w.setCell ⟨b, 0, none⟩ (.slice (some ⟨g, 0, none⟩) R0.length cap)).alloc (.cells q.toArray 104)).heap[w.heap.size]? = some (.cells q.toArray 104 (0, 0)) ∧ b < w.heap.size := by
  obtain ⟨S2, hS2, hW2, hk⟩ := h.bld hbl
  have hbw : b < w.heap.size := by obtain ⟨v, hb, -⟩ := h; exact hlt hb
  obtain ⟨h3, hf3⟩ := hW2.pop c0
  have hga := World.grownBy_alloc (w.setCell ⟨b, 0, none⟩ (.slice (some ⟨g, 0, none⟩) R0.length cap)) (.cells q.toArray 104) none
  have hf : Fr2 (fun k => ¬ S2 k) w _ := hf3.trans (Fr2.none hga)
  have hf1 : Fr2 (fun k => ¬ S k) w _ := hf.mono (fun k e h => e (hS2 k h))
  have hsz : (w.setCell ⟨b, 0, none⟩ (.slice (some ⟨g, 0, none⟩) R0.length cap)).heap.size = w.heap.size := by simp
  refine ⟨(h3.kept hga).weak hS2, hp0.same hf1 (fun k hk e => e (hF k hk)), hp1.same hf1 (fun k hk e => e (hF k hk)), hk _ hf, hf1, ?_, hbw⟩
  rw [← hsz]
  exact heap_alloc_new _ _
/-- What the last row's cells are, and where they lie. -/
theorem WrAt.last {S : Nat → Prop} {B b g n cap : Nat} {w : World} {R0 : List (List Value)} {q : List Value} (h : WrAt S B b w (R0 ++ [q])) (c0 : w.cell? ⟨b, 0, none⟩ = some (.slice (some ⟨g, 0, none⟩) n cap)) :
    n = R0.length + 1 ∧ ∀ i v, q[i]? = some v → w.cell? ⟨g, R0.length * 3 + i, none⟩ = some v := by
  obtain ⟨v, hb, hO, hbB, hB, hSb, hSv, hSs⟩ := h
  rw [cell_of_row w b 0 _ _ (0, 0) hb] at c0
  have c0 : v = .slice (some ⟨g, 0, none⟩) n cap := Option.some.inj c0
  subst c0
  exact ⟨hO.popS.1, fun i v hi => hO.cellS (j := R0.length) (by simp) hi⟩
theorem ite_ne {α : Type} {c : Prop} [Decidable c] {a b : List α} (ha : a ≠ []) (hb : b ≠ []) : (if c then a else b) ≠ [] := by
  split
  · exact ha
  · exact hb
theorem openP_ne (x : Sx) (least : Nat) : openP x least ≠ [] := by
  cases x with
  | mk op nm md nu ys ks ps =>
    unfold openP
    refine ite_ne (by simp) ?_
    simp only [bareP]
    repeat' (first | exact List.cons_ne_nil _ _ | refine ite_ne ?_ ?_)
    simp
theorem wgP_pos (p : Pc) : 1 ≤ wgP p := by
  cases p with
  | bs s => exact Nat.le_refl _
  | ex x l => cases x with | mk op nm md nu ys ks ps => simp only [wgP, wgS]; omega
theorem len_wgPs : ∀ l : List Pc, l.length ≤ wgPs l
  | [] => Nat.le_refl _
  | p :: l => by
    have h1 := len_wgPs l
    have h2 := wgP_pos p
    rw [wgPs_cons, List.length_cons]; omega
theorem fit_wg {x : Sx} (h : fitS x) (least : Nat) : wgPs (openP x least) < wgS x := by
  cases x with
  | mk op nm md nu ys ks ps =>
    simp only [fitS] at h
    exact open_wg (x := .mk op nm md nu ys ks ps) least h.1.1 h.1.2.1 h.1.2.2.1
theorem fit_text {x : Sx} (h : fitS x) (least : Nat) : textPs (openP x least) = wrapS x least := by
  cases x with
  | mk op nm md nu ys ks ps =>
    simp only [fitS] at h
    exact open_text (x := .mk op nm md nu ys ks ps) least h.1.1 h.1.2.1 h.1.2.2.1

mutual
/-- More than an expression's text has bytes. -/
def tbS : Sx → Nat
  | .mk _ nm md nu _ ks _ => 100 + nm.length + md.length + (Zd.txtL nu).length + tbSs ks
def tbSs : List Sx → Nat
  | [] => 0
  | x :: l => 4 + tbS x + tbSs l
end
def sumTx : List (Int × List UInt8) → Nat
  | [] => 0
  | a :: l => 4 + a.2.length + sumTx l
theorem wrap_len (op : Int) (t : List UInt8) (least : Nat) : (wrapT op t least).length ≤ t.length + 2 := by
  unfold wrapT; split <;> simp
theorem three_len : ∀ (k : List (Int × List UInt8)), (k.getD 0 (1, [])).2.length + (k.getD 1 (1, [])).2.length + (k.getD 2 (1, [])).2.length ≤ sumTx k
  | [] => by simp [sumTx]
  | [a] => by simp [sumTx]
  | [a, b] => by simp [sumTx]; omega
  | a :: b :: c :: l => by simp [sumTx]; omega
theorem join_len : ∀ k : List (Int × List UInt8), (joinT (k.map (·.2))).length ≤ sumTx k
  | [] => by simp [joinT, sumTx]
  | [a] => by simp [joinT, sumTx]
  | a :: b :: l => by
    have := join_len (b :: l)
    simp only [List.map_cons] at this
    simp only [List.map_cons, joinT, List.length_append, List.length_cons, List.length_nil, sumTx] at this ⊢; omega
theorem signT_len (op : Int) : (signS op).length ≤ 2 := by
  unfold signS
  rw [List.getD_eq_getElem?_getD]
  cases h : ([[43], [45], [42], [47], [37], [61], [60, 62], [60], [60, 61], [62], [62, 61], [38, 38], [124, 124], [61, 62]] : List (List UInt8))[(op - 7).toNat]? with
  | none => simp
  | some a =>
    have h2 := List.mem_of_getElem? h
    simp only [List.mem_cons, List.not_mem_nil, or_false] at h2
    rcases h2 with h | h | h | h | h | h | h | h | h | h | h | h | h | h <;> subst h <;> simp
theorem ite_le {c : Prop} [Decidable c] {a b : List UInt8} {n : Nat} (ha : a.length ≤ n) (hb : b.length ≤ n) : (if c then a else b).length ≤ n := by
  split
  · exact ha
  · exact hb
theorem node_len (op : Int) (nm md : List UInt8) (nu : Int) (ys : Bool) (k : List (Int × List UInt8)) : (nodeT op nm md nu ys k).length ≤ 100 + nm.length + md.length + (Zd.txtL nu).length + sumTx k := by
  have h3 := three_len k
  have hj := join_len k
  have hs := signT_len op
  have hw := fun j l => wrap_len (k.getD j (1, [])).1 (k.getD j (1, [])).2 l
  have a0 := hw 0 9
  have a1 := hw 0 4
  have b0 := hw 0 0
  have b1 := hw 1 0
  have b2 := hw 2 0
  have d0 := hw 0 (sideA (levS op))
  have d1 := hw 1 (sideB (levS op))
  simp only [nodeT]
  have hm : (if md = [] then [] else md ++ [46]).length ≤ md.length + 1 := ite_le (by simp) (by simp)
  clear hw
  generalize Zd.txtL nu = tl
  repeat' (refine ite_le ?_ ?_)
  all_goals try simp only [List.length_append, List.length_cons, List.length_nil]
  all_goals omega
mutual
theorem tb_len : ∀ x : Sx, (txS x).length ≤ tbS x
  | .mk op nm md nu ys ks ps => by
    have h1 := node_len op nm md nu ys (txSs ks)
    have h2 := tb_lens ks
    simp only [txS, tbS]; omega
theorem tb_lens : ∀ l : List Sx, sumTx (txSs l) ≤ tbSs l
  | [] => Nat.le_refl _
  | x :: l => by
    have h1 := tb_len x
    have h2 := tb_lens l
    simp only [txSs, sumTx, tbSs]; omega
end
theorem tbSs_mem : ∀ {l : List Sx} {j : Nat} {x : Sx}, l[j]? = some x → tbS x ≤ tbSs l
  | [], j, x, h => by simp at h
  | y :: l, 0, x, h => by simp at h; subst h; simp only [tbSs]; omega
  | y :: l, j + 1, x, h => by
    have := tbSs_mem (l := l) (j := j) (x := x) (by simpa using h)
    simp only [tbSs]; omega
theorem ba_cat (a b : List UInt8) : (⟨(a ++ b).toArray⟩ : ByteArray) = (⟨a.toArray⟩ : ByteArray) ++ (⟨b.toArray⟩ : ByteArray) := by rw [ByteArray.mk_append_mk]
/-- A text is told, and memory is kept. -/
def StrX (l : List UInt8) (w : World) (e : Ending) (w' : World) : Prop := e = .returned (.string ⟨l.toArray⟩) ∧ w.grownBy w' none
set_option maxRecDepth 100000 in
set_option maxHeartbeats 16000000 in
theorem rkid_c (op : Int) (sn sm su : ByteArray) (ys : Bool) (pk : Option Addr) (kl ck : Nat) (ps : Int) (least : Nat) (T : List UInt8) (w : World) (h1 : 1 ≤ op) (h2 : op ≤ 24) (hT : T.length ≤ 1000000000)
    (HT : ∀ W, w.grownBy W none → Calls Tryz.prog 9 #[.agg #[.int .i64 op, .string sn, .string sm, .string su, .bool ys, .slice pk kl ck, .int .i64 ps]] W (StrX T W)) :
    Calls Tryz.prog 19 #[.agg #[.int .i64 op, .string sn, .string sm, .string su, .bool ys, .slice pk kl ck, .int .i64 ps], .int .i64 least] w (StrX (wrapT op T least) w) := by
  have HLV := Lib.hid (rlevel_c op h1 h2)
  have HTX := Lib.hid HT
  obtain ⟨l, hl⟩ : ∃ l, levS op = l := ⟨_, rfl⟩
  have hwr : wrapT op T least = if l < least then [40] ++ T ++ [41] else T := by rw [← hl]; rfl
  rw [hl] at HLV
  obtain ⟨R, hR⟩ : ∃ R, wrapT op T least = R := ⟨_, rfl⟩
  rw [hR] at hwr ⊢
  have HR := Lib.hid hwr
  have HTL := Lib.hid hT
  clear hl hwr hR h1 h2 HT hT
  go_enter Tryz.func19, Tryz.ntmps19
  go_wp2_with fail
  have hga := World.grownBy_alloc w (.cells #[.int .i64 op, .string sn, .string sm, .string su, .bool ys, .slice pk kl ck, .int .i64 ps] 33) none
  have hbk := heap_alloc_new w (.cells #[.int .i64 op, .string sn, .string sm, .string su, .bool ys, .slice pk kl ck, .int .i64 ps] 33)
  generalize (w.alloc (.cells #[.int .i64 op, .string sn, .string sm, .string su, .bool ys, .slice pk kl ck, .int .i64 ps] 33)) = WA at *
  obtain ⟨b, hb⟩ : ∃ b, w.heap.size = b := ⟨_, rfl⟩
  rw [hb] at hbk ⊢
  have HGA := Lib.hid hga; have HBK := Lib.hid hbk
  clear hga hbk hb
  refine (HLV.out WA).mono ?_
  rintro e w1 ⟨rfl, hg1⟩
  have HG1 := Lib.hid (gb_trans HGA.out hg1)
  obtain ⟨c0, c1, c2, c3, c4, c5, c6, hbw⟩ := cells7x (bx hg1 HBK.out)
  clear hg1
  by_cases hlt : l < least
  · have x1 : decide (l < least) = true := decide_eq_true hlt
    have x2 : decide ((l : Int) < (least : Int)) = true := decide_eq_true (by omega)
    have HRR : Hid (R = [40] ++ T ++ [41]) := Lib.hid (by rw [HR.out, if_pos hlt])
    clear hlt
    go_wp2_with fail
    refine (HTX.out w1 HG1.out).mono ?_
    rintro e w2 ⟨rfl, hg2⟩
    have HG2 := Lib.hid (gb_trans HG1.out hg2)
    clear hg2
    have z1 : ¬ 9223372036854775807 < T.length + 1 := by have := HTL.out; omega
    have z2 : ¬ 9223372036854775807 < 1 + T.length := by have := HTL.out; omega
    have z3 : ¬ 9223372036854775807 < T.length + 1 + 1 := by have := HTL.out; omega
    have z4 : ¬ 9223372036854775807 < 1 + T.length + 1 := by have := HTL.out; omega
    have z5 : ¬ 9223372036854775807 < T.length + 2 := by have := HTL.out; omega
    go_wp2_with fail
    go_ret
    exact ⟨by rw [HRR.out, ba_cat, ba_cat]; rfl, HG2.out⟩
  · have x1 : decide (l < least) = false := decide_eq_false hlt
    have x2 : decide ((l : Int) < (least : Int)) = false := decide_eq_false (by omega)
    have HRR : Hid (R = T) := Lib.hid (by rw [HR.out, if_neg hlt])
    clear hlt
    go_wp2_with fail
    refine (HTX.out w1 HG1.out).mono ?_
    rintro e w2 ⟨rfl, hg2⟩
    have HG2 := Lib.hid (gb_trans HG1.out hg2)
    clear hg2
    go_wp2_with fail
    go_ret
    exact ⟨by rw [HRR.out]; rfl, HG2.out⟩

theorem tbSs_append (a b : List Sx) : tbSs (a ++ b) = tbSs a + tbSs b := by
  induction a with
  | nil => simp [tbSs]
  | cons x l ih => simp only [List.cons_append, tbSs, ih]; omega
theorem wgSs_append (a b : List Sx) : wgSs (a ++ b) = wgSs a + wgSs b := by
  induction a with
  | nil => simp [wgSs]
  | cons x l ih => simp only [List.cons_append, wgSs, ih]; omega
theorem numC_txt {c : Cl} (h : fitsC c = true) : (Zd.txtL (numC c)).length ≤ 80 := by
  have hz : (Zd.txtL 0).length ≤ 80 := by unfold Zd.txtL; rw [if_pos rfl]; simp
  unfold fitsC at h
  simp only [Bool.and_eq_true] at h
  have h3 := of_decide_eq_true h.2
  unfold numC
  split
  · by_cases hE : Zd.parseE c.nu = 0
    · rw [Zd.txtL_parse hE]; exact h3
    · have : Zd.parseV c.nu = 0 := by unfold Zd.parseV; rw [if_neg hE]
      rw [this]; exact hz
  · exact hz
theorem stepC_bnd {o : List Sx} {c : Cl} (h : fitsC c = true) : tbSs (stepC o c) ≤ tbSs o + 304 ∧ wgSs (stepC o c) = wgSs o + 8 := by
  have h1 := tbSs_append (o.take (o.length - takesC c)) (o.drop (o.length - takesC c))
  have h2 := wgSs_append (o.take (o.length - takesC c)) (o.drop (o.length - takesC c))
  rw [List.take_append_drop] at h1 h2
  have h3 := numC_txt h
  unfold fitsC at h
  simp only [Bool.and_eq_true] at h
  have h4 := of_decide_eq_true h.1.1
  have h5 := of_decide_eq_true h.1.2
  unfold stepC
  rw [tbSs_append, wgSs_append, h1, h2]
  simp only [tbSs, tbS, wgSs, wgS]
  omega
theorem foldC_bnd : ∀ (l : List Cl) (o : List Sx), l.all fitsC = true → tbSs (l.foldl stepC o) ≤ tbSs o + 304 * l.length ∧ wgSs (l.foldl stepC o) = wgSs o + 8 * l.length
  | [], o, _ => by simp
  | c :: l, o, h => by
    simp only [List.all_cons, Bool.and_eq_true] at h
    have h1 := foldC_bnd l (stepC o c) h.2
    have h2 := stepC_bnd (o := o) h.1
    rw [List.foldl_cons, List.length_cons]
    omega
theorem wgSs_mem : ∀ {l : List Sx} {j : Nat} {x : Sx}, l[j]? = some x → wgS x ≤ wgSs l
  | [], j, x, h => by simp at h
  | y :: l, 0, x, h => by simp at h; subst h; simp only [wgSs]; omega
  | y :: l, j + 1, x, h => by
    have := wgSs_mem (l := l) (j := j) (x := x) (by simpa using h)
    simp only [wgSs]; omega
theorem bothC_bnd {l : List Cl} {x : Sx} (h : bothC l = some x) : tbS x ≤ 10000 ∧ wgS x ≤ 500 := by
  unfold bothC at h
  split at h
  · cases h
  · rename_i h30
    split at h
    · rename_i hf
      have h1 : x ∈ stackC l := List.mem_of_getLast? h
      obtain ⟨j, hj, rfl⟩ := List.getElem_of_mem h1
      have h2 := tbSs_mem (List.getElem?_eq_getElem hj)
      have h3 := wgSs_mem (List.getElem?_eq_getElem hj)
      have h4 := foldC_bnd l [] hf
      unfold stackC at h2 h3 ⊢
      simp only [tbSs, wgSs] at h4
      omega
    · cases h

instance : Inhabited Cl := ⟨⟨0, 0, [], [], [], false⟩⟩
def inK (c : Cl) : Prop := -9223372036854775808 ≤ c.kids ∧ c.kids < 9223372036854775808

section
open Go.ChangeShapes Go.WideShapes Go.Deep
variable {H : Type} {enc : TypeId × Value → H} {P : Program} {w : World} {base : Nat} {spare : Nat → Bool} {held : Bool}

theorem open_cellC {e : TypeId} {f0 f1 f2 f3 f4 f5 : Field} {fuel : Nat} {q : List Value} {x : DataW H × List MemPlace} (he : P.underlying e = some (.struct #[f0, f1, f2, f3, f4, f5])) (hq : q.length = 6)
    (o0 : f0.offset = 0) (o1 : f1.offset = 1) (o2 : f2.offset = 2) (o3 : f3.offset = 3) (o4 : f4.offset = 4) (o5 : f5.offset = 5) (c0 : P.cellsOf f0.type = 1) (c1 : P.cellsOf f1.type = 1) (c2 : P.cellsOf f2.type = 1) (c3 : P.cellsOf f3.type = 1) (c4 : P.cellsOf f4.type = 1) (c5 : P.cellsOf f5.type = 1)
    (t0 : P.underlying f0.type = some (.int .i64)) (t1 : P.underlying f1.type = some (.int .i64)) (t2 : P.underlying f2.type = some .string) (t3 : P.underlying f3.type = some .string) (t4 : P.underlying f4.type = some .string) (t5 : P.underlying f5.type = some .bool)
    (h : DataW.trod enc P w base spare held fuel e q = some x) : ∃ c : Cl, q = cellR c ∧ inK c := by
  obtain ⟨xs, k, hk, hxy, _, hxl, hf⟩ := DataW.trod_struct he h
  match xs, hxl, q, hq with
  | [y0, y1, y2, y3, y4, y5], _, [v0, v1, v2, v3, v4, v5], _ =>
    have g0 := hf 0 f0 rfl
    have g1 := hf 1 f1 rfl
    have g2 := hf 2 f2 rfl
    have g3 := hf 3 f3 rfl
    have g4 := hf 4 f4 rfl
    have g5 := hf 5 f5 rfl
    simp [o0, o1, o2, o3, o4, o5, c0, c1, c2, c3, c4, c5] at g0 g1 g2 g3 g4 g5
    obtain ⟨n0, e0, -⟩ := DataW.trod_int t0 g0
    obtain ⟨n1, e1, -, hwf⟩ := DataW.trod_int t1 g1
    obtain ⟨s2, e2, -⟩ := DataW.trod_string t2 g2
    obtain ⟨s3, e3, -⟩ := DataW.trod_string t3 g3
    obtain ⟨s4, e4, -⟩ := DataW.trod_string t4 g4
    obtain ⟨b5, e5, -⟩ := DataW.trod_bool t5 g5
    simp at e0 e1 e2 e3 e4 e5
    subst e0; subst e1; subst e2; subst e3; subst e4; subst e5
    refine ⟨⟨n0, n1, s2.data.toList, s3.data.toList, s4.data.toList, b5⟩, rfl, ?_⟩
    unfold inK
    simp [Lit.wf] at hwf
    have h1 : IntKind.i64.min = -9223372036854775808 := by decide
    rw [h1] at hwf
    exact ⟨hwf.1, by show n1 < 9223372036854775808; omega⟩
theorem open_cellsC {t e : TypeId} {f0 f1 f2 f3 f4 f5 : Field} {fuel : Nat} {v : Option Addr} {n c : Nat} {x : DataW H × List MemPlace} (ht : P.underlying t = some (.slice e)) (he : P.underlying e = some (.struct #[f0, f1, f2, f3, f4, f5])) (ce : P.cellsOf e = 6)
    (o0 : f0.offset = 0) (o1 : f1.offset = 1) (o2 : f2.offset = 2) (o3 : f3.offset = 3) (o4 : f4.offset = 4) (o5 : f5.offset = 5) (c0 : P.cellsOf f0.type = 1) (c1 : P.cellsOf f1.type = 1) (c2 : P.cellsOf f2.type = 1) (c3 : P.cellsOf f3.type = 1) (c4 : P.cellsOf f4.type = 1) (c5 : P.cellsOf f5.type = 1)
    (t0 : P.underlying f0.type = some (.int .i64)) (t1 : P.underlying f1.type = some (.int .i64)) (t2 : P.underlying f2.type = some .string) (t3 : P.underlying f3.type = some .string) (t4 : P.underlying f4.type = some .string) (t5 : P.underlying f5.type = some .bool)
    (h : DataW.trod enc P w base spare held fuel t [.slice v n c] = some x) : ∃ T : List Cl, T.length = n ∧ GAt 6 w v (T.map cellR) ∧ ∀ c ∈ T, inK c := by
  obtain ⟨h1, h2, q, hq, hg⟩ := open_rows ht ce (by omega) h
  have each : ∀ j, j < n → ∃ c : Cl, q j = cellR c ∧ inK c := fun j hj => by
    obtain ⟨hl, f', x', hx⟩ := hq j hj
    exact open_cellC he hl o0 o1 o2 o3 o4 o5 c0 c1 c2 c3 c4 c5 t0 t1 t2 t3 t4 t5 hx
  obtain ⟨T, hT⟩ := choose_lt each
  refine ⟨(List.range n).map T, by simp, ?_, fun c hc => ?_⟩
  · have : ((List.range n).map T).map cellR = (List.range n).map q := by
      rw [List.map_map]
      exact List.map_congr_left fun j hj => (hT j (by simpa using hj)).1.symm
    rw [this]; exact hg
  · obtain ⟨j, hj, rfl⟩ := List.mem_map.1 hc
    exact (hT j (by simpa using hj)).2
end
end Go.Proofs.YtccokidhngdjnaaGreatDoor
