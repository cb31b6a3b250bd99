/- Lemmas. -/
import Derived.Deep.Upon
import Derived.Test.YtddccnpohpaofaaGreatDoorP17
import Derived.Test.YtddccnpohpaofaaGreatDoorP21
set_option linter.unusedVariables false
set_option linter.unusedSimpArgs false
namespace Go.Proofs.YtddccnpohpaofaaGreatDoor
open Go.RowKit

mutual
def fitS : Sx → Prop
  | .mk op nm md nu _ ks _ => (1 ≤ op ∧ op ≤ 24 ∧ countB op ks.length = true ∧ nm.length ≤ 60000 ∧ md.length ≤ 60000 ∧ nu.natAbs < Zd.Lim) ∧ fitSs ks
def fitSs : List Sx → Prop
  | [] => True
  | x :: l => fitS x ∧ fitSs l
end
theorem fitSs_mem : ∀ {l : List Sx} {x : Sx}, fitSs l → x ∈ l → fitS x
  | [], x, _, h => by cases h
  | y :: l, x, hs, h => by
    simp only [fitSs] at hs
    rcases List.mem_cons.1 h with h | h
    · subst h; exact hs.1
    · exact fitSs_mem hs.2 h
def fitP : Pc → Prop
  | .bs _ => True
  | .ex x _ => fitS x
theorem fit_nil : fitS nilS := by
  simp only [nilS, fitS, fitSs]
  exact ⟨⟨by omega, by omega, by decide, by simp, by simp, by unfold Zd.Lim; exact Nat.pow_pos (by unfold Zd.Bw; omega)⟩, trivial⟩
theorem fit_kid {ks : List Sx} (h : fitSs ks) (j : Nat) : fitS (ks.getD j nilS) := by
  rw [List.getD_eq_getElem?_getD]
  cases hx : ks[j]? with
  | none => exact fit_nil
  | some x => exact fitSs_mem h (List.mem_of_getElem? hx)
theorem fit_args : ∀ {l : List Sx}, fitSs l → ∀ p ∈ argsP l, fitP p
  | [], h, p, hp => by simp [argsP] at hp
  | [x], h, p, hp => by
    simp only [argsP, List.mem_cons, List.not_mem_nil, or_false] at hp
    subst hp; simp only [fitSs] at h; exact h.1
  | x :: y :: l, h, p, hp => by
    have h2 : fitS x ∧ fitSs (y :: l) := by simp only [fitSs] at h ⊢; exact h
    simp only [argsP, List.mem_cons] at hp
    rcases hp with rfl | rfl | hp
    · exact h2.1
    · trivial
    · exact fit_args h2.2 p (by simpa [argsP] using hp)
theorem fit_ite {c : Prop} [Decidable c] {a b : List Pc} (ha : ∀ p ∈ a, fitP p) (hb : ∀ p ∈ b, fitP p) : ∀ p ∈ (if c then a else b), fitP p := by
  split
  · exact ha
  · exact hb
theorem fit_cons {a : Pc} {l : List Pc} (ha : fitP a) (hl : ∀ p ∈ l, fitP p) : ∀ p ∈ a :: l, fitP p := fun p hp => by
  rcases List.mem_cons.1 hp with rfl | hp
  · exact ha
  · exact hl p hp
theorem fit_app {a b : List Pc} (ha : ∀ p ∈ a, fitP p) (hb : ∀ p ∈ b, fitP p) : ∀ p ∈ a ++ b, fitP p := fun p hp => (List.mem_append.1 hp).elim (ha p) (hb p)
theorem fit_none : ∀ p ∈ ([] : List Pc), fitP p := fun p hp => by cases hp
theorem fit_bare {op : Int} {nm md : List UInt8} {nu : Int} {ys : Bool} {ks : List Sx} {ps : Int} (h : fitSs ks) : ∀ p ∈ bareP (.mk op nm md nu ys ks ps), fitP p := by
  have hb : ∀ s, fitP (.bs s) := fun _ => trivial
  have he : ∀ j n, fitP (.ex (ks.getD j nilS) n) := fun j n => fit_kid h j
  simp only [bareP]
  repeat' (first | exact fit_none | exact hb _ | exact he _ _ | exact fit_args h | refine fit_ite ?_ ?_ | refine fit_cons ?_ ?_ | refine fit_app ?_ ?_)
theorem fit_open {x : Sx} (h : fitS x) (least : Nat) : ∀ p ∈ openP x least, fitP p := by
  cases x with
  | mk op nm md nu ys ks ps =>
    simp only [fitS] at h
    have hb := fit_bare (op := op) (nm := nm) (md := md) (nu := nu) (ys := ys) (ps := ps) h.2
    intro p hp
    unfold openP at hp
    split at hp
    · rcases List.mem_append.1 hp with hp | hp
      · rcases List.mem_cons.1 hp with hp | hp
        · subst hp; trivial
        · exact hb p hp
      · rw [List.mem_singleton] at hp; subst hp; trivial
    · exact hb p hp

theorem WrAt.weak {S S2 : Nat → Prop} {B b : Nat} {w : World} {rows : List (List Value)} (h : WrAt S2 B b w rows) (hS : ∀ k, S k → S2 k) : WrAt S B b w rows := by
  obtain ⟨v, hb, hO, hbB, hB, hSb, hSv, hSs⟩ := h
  exact ⟨v, hb, hO, hbB, hB, fun e => hSb (hS _ e), fun k hk e => hSv k hk (hS _ e), fun k hk => hSs k (hS _ hk)⟩
theorem WrAt.len0 {S : Nat → Prop} {B b : Nat} {w : World} {rows : List (List Value)} (h : WrAt S B b w rows) : ∃ p c, w.cell? ⟨b, 0, none⟩ = some (.slice p rows.length c) := by
  obtain ⟨v, hb, hO, -⟩ := h
  obtain ⟨p, c, rfl, -⟩ := hO.is
  exact ⟨p, c, by rw [cell_of_row w b 0 _ _ (0, 0) hb]; rfl⟩
def RevW (S F : Nat → Prop) (B b bb : Nat) (R0 R1 : List (List Value)) (l : List Pc) (out : List Value) (w : World) (e : Ending) (w' : World) : Prop := e = .returned (.tuple #[]) ∧ WrAt S B b w' (R0 ++ R1.reverse) ∧ PcsAt F w' l.reverse R1.reverse ∧ BldI bb out w' ∧ Fr2 (fun k => ¬ S k) w w'
theorem rev_w (S F : Nat → Prop) (B b bb g n cap cap' : Nat) (R0 R1 : List (List Value)) (l : List Pc) (out : List Value) (w : World) (h : WrAt S B b w (R0 ++ R1)) (hp : PcsAt F w l R1) (hF : ∀ k, F k → S k) (hbl : BldI bb out w) (c0 : w.cell? ⟨b, 0, none⟩ = some (.slice (some ⟨g, 0, none⟩) n cap)) (hl : R1.length ≤ 1000000) :
    Calls Tryz.prog 62 #[.slice (some ⟨g, R0.length * 3, none⟩) R1.length cap'] w (RevW S F B b bb R0 R1 l out w) := by
  obtain ⟨d, rfl, hd⟩ := pcs_enc hp
  obtain ⟨S2, hS2, hW2, hk⟩ := h.bld hbl
  have := rev_c9 S2 B b R0 d g n cap cap' w hW2 c0 (by rw [List.length_map] at hl; exact hl)
  rw [List.length_map]
  refine this.mono ?_
  rintro e w' ⟨rfl, hw, hf⟩
  have hf2 : Fr2 (fun k => ¬ S k) w w' := hf.mono (fun k e h => e (hS2 k h))
  rw [List.map_reverse] at hw
  exact ⟨rfl, hw.weak hS2, (hp.rev).same hf2 (fun k hk e => e (hF k hk)), hk _ hf, hf2⟩
def OpenW (S F : Nat → Prop) (B b bb : Nat) (rows : List (List Value)) (ps : List Pc) (out : List Value) (w : World) (e : Ending) (w' : World) : Prop := e = .returned (.tuple #[]) ∧ ∃ R, WrAt S B b w' (rows ++ R) ∧ PcsAt F w' ps R ∧ BldI bb out w' ∧ Fr2 (fun k => ¬ S k) w w'
theorem open_w (S F : Nat → Prop) (B b bb : Nat) (rows : List (List Value)) (x : Sx) (least g o : Nat) (out : List Value) (w : World) (h : WrAt S B b w rows) (hl : rows.length ≤ 600000) (hp : PcAt F w (.ex x least) (rowX g o ((least : Nat) : Int))) (hfit : fitS x) (hF : ∀ k, F k → S k) (hSg : S 5) (hla : LaidW w) (hbl : BldI bb out w) :
    Calls Tryz.prog 63 #[.pointer (some ⟨b, 0, none⟩), .pointer (some ⟨g, o, none⟩), .int .i64 least] w (OpenW S F B b bb rows (openP x least) out w) := by
  obtain ⟨S2, hS2, hW2, hk⟩ := h.bld hbl
  obtain ⟨g', o', q, he, hFg, hgw, hx, hc⟩ := hp
  simp only [rowX, List.cons.injEq, Value.pointer.injEq, Option.some.injEq, Addr.mk.injEq, and_true, true_and] at he
  obtain ⟨rfl, rfl⟩ := he
  cases x with
  | mk op nm md nu ys ks ps =>
    simp only [fitS] at hfit
    obtain ⟨⟨a1, a2, a3, a4, a5, a6⟩, -⟩ := hfit
    refine (open_c9 S2 F B b rows g o least (.mk op nm md nu ys ks ps) q w hW2 hl (fun k hk => hS2 k (hF k hk)) (hS2 _ hSg) hla hx (hS2 _ (hF _ hFg)) hc a1 a2 a3 ⟨a4, a5, a6⟩).mono ?_
    rintro e w' ⟨rfl, R, hw, hp, hf⟩
    exact ⟨rfl, R, hw.weak hS2, hp, hk _ hf, hf.mono (fun k e h => e (hS2 k h))⟩

def prow (p : Pq) : List Value := [.pointer (some p.1), .int .i64 (p.2.2 : Int)]
theorem infoPl : (Tryz.prog.info? 125).map (fun i => (i.zero, i.size, i.bytes)) = some (some (.agg #[.pointer none, .int .i64 0]), 2, 16) := by kernel_rfl
theorem infoExS : (Tryz.prog.info? 30).map (fun i => (i.zero, i.size, i.bytes)) = some (some (.agg #[.int .i64 0, .string ⟨#[]⟩, .string ⟨#[]⟩, .bool false, .slice none 0 0, .bool false, .slice none 0 0, .int .i64 0]), 8, 112) := by kernel_rfl
/-- Pointers to expressions at unlike places are unlike. -/
theorem ptr_ne {w : World} {a b : Addr} (hne : a ≠ b) (ha : Flat w a.block) (hb : Flat w b.block) : (binOp .eql 60 (.pointer (some a)) (.pointer (some b))).run Tryz.prog w = .ok (.bool false) w := by
  obtain ⟨ca, ta, ha⟩ := ha
  obtain ⟨cb, tb, hb⟩ := hb
  obtain ⟨j, hj, hjs⟩ := Option.map_eq_some_iff.1 infoExS
  simp only [Prod.mk.injEq] at hjs
  exact run_eql_ptr_other w Tryz.underlying60 hj (by rw [hjs.2.1]; decide) hne ha hb
mutual
/-- Are an expression's names and numbers small enough to be looked at? -/
def okS : Sx → Prop
  | .mk _ nm md nu _ ks _ => (nm.length ≤ 60000 ∧ md.length ≤ 60000 ∧ nu.natAbs < Zd.Lim) ∧ okSs ks
def okSs : List Sx → Prop
  | [] => True
  | x :: l => okS x ∧ okSs l
end
theorem okSs_get : ∀ {l : List Sx} {j : Nat} {x : Sx}, okSs l → l[j]? = some x → okS x
  | [], j, x, _, h => by simp at h
  | y :: l, 0, x, hr, h => by simp at h; subst h; simp only [okSs] at hr; exact hr.1
  | y :: l, j + 1, x, hr, h => by simp only [okSs] at hr; exact okSs_get hr.2 (by simpa using h)
theorem len_sizSs : ∀ l : List Sx, l.length ≤ sizSs l
  | [] => Nat.le_refl _
  | x :: l => by have := len_sizSs l; have := sizS_pos x; simp only [List.length_cons, sizSs]; omega
theorem cstP_len : ∀ P : List Pq, P.length ≤ cstP P
  | [] => Nat.le_refl _
  | p :: P => by
    have := cstP_len P
    simp only [List.length_cons, cstP, List.map_cons, List.sum_cons, cst1] at *
    omega
theorem mayF_c (op : Int) (w : World) : Calls Tryz.prog 35 #[.int .i64 op] w (fun e w' => e = .returned (.bool (mayB true op)) ∧ w' = w) := by
  go_enter Tryz.func35, Tryz.ntmps35
  go_wp2
  go_ret
  exact ⟨rfl, rfl⟩
theorem mayG_c (op : Int) (w : World) : Calls Tryz.prog 54 #[.int .i64 op] w (fun e w' => e = .returned (.bool (mayB false op)) ∧ w' = w) := by
  have h : mayB false op = (op != 4) := by
    unfold mayB
    rw [if_neg (by simp)]
    by_cases h : op = 4
    · subst h; rfl
    · rw [decide_eq_true h]; simp [bne, h]
  rw [h]
  go_enter Tryz.func54, Tryz.ntmps54
  go_wp2
  go_ret
  exact ⟨rfl, rfl⟩

mutual
theorem RSt.bound {F : Nat → Prop} {w : World} : ∀ {x : Sx} {q : List Value}, RSt F w x q → RSt (fun k => F k ∧ k < w.heap.size) w x q
  | .mk op nm md nu ys ks ps, q, h => by
    simp only [RSt] at h ⊢
    obtain ⟨pk, ck, rows, h1, h3, h4, h5⟩ := h
    refine ⟨pk, ck, rows, h1, h3, LsU.bound h4, fun h0 => ?_⟩
    obtain ⟨a, ha, h6⟩ := h5 h0
    have hr := h4.len
    rcases h3 with e | ⟨g, off, e, hg, -⟩
    · rw [e] at hr; exact absurd (List.eq_nil_of_length_eq_zero hr.symm) h0
    · rw [ha] at e; injection e with e; subst e; exact ⟨_, ha, h6, hg⟩
theorem LsU.bound {F : Nat → Prop} {w : World} : ∀ {l : List Sx} {r : List (List Value)}, LsU F w l r → LsU (fun k => F k ∧ k < w.heap.size) w l r
  | [], r, h => by simp only [LsU] at h ⊢; exact h
  | x :: l, r, h => by
    simp only [LsU] at h ⊢
    obtain ⟨q, r', h1, h2, h3⟩ := h
    exact ⟨q, r', h1, RSt.bound h2, LsU.bound h3⟩
end
theorem RSt.seven {F : Nat → Prop} {w : World} {x : Sx} {q : List Value} (h : RSt F w x q) : ∃ a0 a1 a2 a3 a4 a5 a6, q = [a0, a1, a2, a3, a4, a5, a6] := by
  cases x with
  | mk op nm md nu ys ks ps =>
    simp only [RSt] at h
    obtain ⟨pk, ck, rows, rfl, -⟩ := h
    exact ⟨_, _, _, _, _, _, _, rfl⟩
theorem RSt.one {F : Nat → Prop} {w : World} {x : Sx} {q : List Value} (h : RSt F w x q) : q.length = 7 ∧ ∀ u ∈ q, u.oneCell' = true := by
  refine ⟨h.len, ?_⟩
  cases x with
  | mk op nm md nu ys ks ps =>
    simp only [RSt] at h
    obtain ⟨pk, ck, rows, rfl, -⟩ := h
    intro u hu
    simp only [List.mem_cons, List.not_mem_nil, or_false] at hu
    rcases hu with rfl | rfl | rfl | rfl | rfl | rfl | rfl <;> rfl
def ExPostS (x : Sx) (w : World) (e : Ending) (w' : World) : Prop := w.grownBy w' none ∧ ∃ q, e = .returned (.agg q.toArray) ∧ RSt (fun k => w.heap.size ≤ k) w' x q
theorem set7u {W : World} {B : Nat} {T : TypeId} {x0 x1 x2 x3 x4 x5 x6 : Value} (h0 : W.heap[B]? = some (.cells #[x0, x1, x2, x3, x4, x5, x6] T (0, 0))) (a b c d e f g : Value) : (((((((W.setCell ⟨B, 0, none⟩ a).setCell ⟨B, 1, none⟩ b).setCell ⟨B, 2, none⟩ c).setCell ⟨B, 3, none⟩ d).setCell ⟨B, 4, none⟩ e).setCell ⟨B, 5, none⟩ f).setCell ⟨B, 6, none⟩ g).heap[B]? = some (.cells #[a, b, c, d, e, f, g] T (0, 0)) ∧ Fr2 (fun k => k = B) W (((((((W.setCell ⟨B, 0, none⟩ a).setCell ⟨B, 1, none⟩ b).setCell ⟨B, 2, none⟩ c).setCell ⟨B, 3, none⟩ d).setCell ⟨B, 4, none⟩ e).setCell ⟨B, 5, none⟩ f).setCell ⟨B, 6, none⟩ g) := by
  have h1 : (W.setCell ⟨B, 0, none⟩ a).heap[B]? = some (.cells #[a, x1, x2, x3, x4, x5, x6] T (0, 0)) := set_cells (i := 0) (u := a) h0
  have h2 : ((W.setCell ⟨B, 0, none⟩ a).setCell ⟨B, 1, none⟩ b).heap[B]? = some (.cells #[a, b, x2, x3, x4, x5, x6] T (0, 0)) := set_cells (i := 1) (u := b) h1
  have h3 : (((W.setCell ⟨B, 0, none⟩ a).setCell ⟨B, 1, none⟩ b).setCell ⟨B, 2, none⟩ c).heap[B]? = some (.cells #[a, b, c, x3, x4, x5, x6] T (0, 0)) := set_cells (i := 2) (u := c) h2
  have h4 : ((((W.setCell ⟨B, 0, none⟩ a).setCell ⟨B, 1, none⟩ b).setCell ⟨B, 2, none⟩ c).setCell ⟨B, 3, none⟩ d).heap[B]? = some (.cells #[a, b, c, d, x4, x5, x6] T (0, 0)) := set_cells (i := 3) (u := d) h3
  have h5 : (((((W.setCell ⟨B, 0, none⟩ a).setCell ⟨B, 1, none⟩ b).setCell ⟨B, 2, none⟩ c).setCell ⟨B, 3, none⟩ d).setCell ⟨B, 4, none⟩ e).heap[B]? = some (.cells #[a, b, c, d, e, x5, x6] T (0, 0)) := set_cells (i := 4) (u := e) h4
  have h6 : ((((((W.setCell ⟨B, 0, none⟩ a).setCell ⟨B, 1, none⟩ b).setCell ⟨B, 2, none⟩ c).setCell ⟨B, 3, none⟩ d).setCell ⟨B, 4, none⟩ e).setCell ⟨B, 5, none⟩ f).heap[B]? = some (.cells #[a, b, c, d, e, f, x6] T (0, 0)) := set_cells (i := 5) (u := f) h5
  have hs : (fun k => k = B) B := rfl
  exact ⟨set_cells (i := 6) (u := g) h6, ((((((((Fr2.refl (fun k => k = B) W).setCell hs a).setCell hs b).setCell hs c).setCell hs d).setCell hs e).setCell hs f).setCell hs g)⟩
theorem cells7u {w : World} {r : Nat} {a b c d e f g : Value} {T : TypeId} (h0 : w.heap[r]? = some (.cells #[a, b, c, d, e, f, g] T (0, 0))) : w.cell? ⟨r, 0, none⟩ = some a ∧ w.cell? ⟨r, 1, none⟩ = some b ∧ w.cell? ⟨r, 2, none⟩ = some c ∧ w.cell? ⟨r, 3, none⟩ = some d ∧ w.cell? ⟨r, 4, none⟩ = some e ∧ w.cell? ⟨r, 5, none⟩ = some f ∧ w.cell? ⟨r, 6, none⟩ = some g ∧ ∀ o, w.frozen? ⟨r, o, none⟩ = false :=
  ⟨by rw [cell_of_row w r 0 _ T (0, 0) h0]; rfl, by rw [cell_of_row w r 1 _ T (0, 0) h0]; rfl, by rw [cell_of_row w r 2 _ T (0, 0) h0]; rfl, by rw [cell_of_row w r 3 _ T (0, 0) h0]; rfl, by rw [cell_of_row w r 4 _ T (0, 0) h0]; rfl, by rw [cell_of_row w r 5 _ T (0, 0) h0]; rfl, by rw [cell_of_row w r 6 _ T (0, 0) h0]; rfl, fun o => by simp [World.frozen?, h0]⟩
theorem infoRU : (Tryz.prog.info? 33).map (fun i => (i.zero, i.size, i.bytes)) = some (some (.agg #[.int .i64 0, .string ⟨#[]⟩, .string ⟨#[]⟩, .string ⟨#[]⟩, .bool false, .slice none 0 0, .int .i64 0]), 7, 96) := by kernel_rfl
theorem fr_after {S : Nat → Prop} {w a b : World} (h : w.grownBy a none) (k : Fr2 S a b) (hS : ∀ i, S i → w.heap.size ≤ i) : w.grownBy b none :=
  below_gb ⟨k.os.trans h.os, k.tape.trans h.tape, k.output.trans h.output, Nat.le_trans h.size k.size, fun i hi => (k.block i (Nat.lt_of_lt_of_le hi h.size) (fun hs => by have := hS i hs; omega)).trans (h.block i hi (by simp))⟩
/-- Seven cells stored where the result lies. -/
theorem exu_put {w w4 : World} {b1 : Nat} {T : TypeId} {x0 x1 x2 x3 x4 x5 x6 a b c d e f g : Value} {F : Nat → Prop} {x : Sx} (hgw : w.grownBy w4 none) (hb : w.heap.size ≤ b1) (hB : w4.heap[b1]? = some (.cells #[x0, x1, x2, x3, x4, x5, x6] T (0, 0))) (hX : RSt F w4 x [a, b, c, d, e, f, g]) (hF : ∀ k, F k → w.heap.size ≤ k ∧ k ≠ b1) :
    ExPostS x w (.returned (.agg #[a, b, c, d, e, f, g])) (((((((w4.setCell ⟨b1, 0, none⟩ a).setCell ⟨b1, 1, none⟩ b).setCell ⟨b1, 2, none⟩ c).setCell ⟨b1, 3, none⟩ d).setCell ⟨b1, 4, none⟩ e).setCell ⟨b1, 5, none⟩ f).setCell ⟨b1, 6, none⟩ g) := by
  obtain ⟨hp, hf⟩ := set7u hB a b c d e f g
  refine ⟨fr_after hgw hf (fun j hj => by have e : j = b1 := hj; omega), [a, b, c, d, e, f, g], rfl, ?_⟩
  exact RSt.mono (fun k hk => (hF k hk).1) (RSt.same hf (fun k hk e => (hF k hk).2 e) hX)
def EBoxU (W : World) (v0 v1 v2 v3 v4 v5 v6 : Value) (t3 : Value) (wx : World) : Prop := ∃ b2, t3 = .pointer (some ⟨b2, 0, none⟩) ∧ wx.heap[b2]? = some (.cells #[v0, v1, v2, v3, v4, v5, v6] 33 (0, 0)) ∧ W.heap.size ≤ b2 ∧ W.grownBy wx none
theorem ebox_new {W w2 : World} {v0 v1 v2 v3 v4 v5 v6 : Value} (h : W.grownBy w2 none) : EBoxU W v0 v1 v2 v3 v4 v5 v6 (.pointer (some ⟨w2.heap.size, 0, none⟩)) (w2.alloc (.cells #[v0, v1, v2, v3, v4, v5, v6] 33)) :=
  ⟨w2.heap.size, rfl, heap_alloc_new w2 _, h.size, gb_alloc h _⟩
theorem ebox_old {W w2 : World} {b : Nat} {v0 v1 v2 v3 v4 v5 v6 x0 x1 x2 x3 x4 x5 x6 : Value} (h : W.grownBy w2 none) (hb : W.heap.size ≤ b) (hB : w2.heap[b]? = some (.cells #[x0, x1, x2, x3, x4, x5, x6] 33 (0, 0))) : EBoxU W v0 v1 v2 v3 v4 v5 v6 (.pointer (some ⟨b, 0, none⟩)) (((((((w2.setCell ⟨b, 0, none⟩ v0).setCell ⟨b, 1, none⟩ v1).setCell ⟨b, 2, none⟩ v2).setCell ⟨b, 3, none⟩ v3).setCell ⟨b, 4, none⟩ v4).setCell ⟨b, 5, none⟩ v5).setCell ⟨b, 6, none⟩ v6) := by
  obtain ⟨hp, hf⟩ := set7u hB v0 v1 v2 v3 v4 v5 v6
  exact ⟨b, rfl, hp, hb, fr_after h hf (fun j hj => by have e : j = b := hj; omega)⟩
theorem OwnG.rowsU {s n c : Nat} {T : TypeId} {w : World} {base : Nat} {p : Option Addr} {l : List (List Value)} (h : OwnG s T w base (.slice p n c) l) : n = l.length ∧ GAt s w p l ∧ (l ≠ [] → ∃ a, p = some a ∧ base ≤ a.block ∧ a.block < w.heap.size) := by
  obtain ⟨p', c', e, h1, h2, h3, h4⟩ := h.is
  injection e with e1 e2 e3
  subst e1
  refine ⟨e2, h1, fun h0 => ?_⟩
  have hl := List.length_pos_iff.2 h0
  obtain ⟨a, ha, hb, hc⟩ := OwnG.lt h rfl (by omega)
  exact ⟨a, ha, hb, hc⟩
/-- A kid more in a row. -/
theorem push_u {wr w7 wa w9 W9 : World} {B b2 base nv cv g9 n9 cap9 : Nat} {pv : Option Addr} {rows : List (List Value)} {q : List Value} {ks : List Sx} {x : Sx} {u : Value} (hw : B ≤ wr.heap.size) (hO : OwnG 7 33 wr base (.slice pv nv cv) rows) (hb2 : b2 < base) (hb2r : b2 < wr.heap.size)
    (hLS : LsU (fun k => B ≤ k ∧ k < wr.heap.size ∧ k ≠ b2 ∧ (Value.slice pv nv cv).ownBlock ≠ some k) wr ks rows) (hg7 : wr.grownBy w7 none) (hq : RSt (fun k => wr.heap.size ≤ k) w7 x q) (hga : w7.grownBy wa none) (hsa : wa.heap.size = w7.heap.size + 1)
    (hg9 : wa.grownBy w9 (Value.slice pv nv cv).ownBlock) (hl9 : (Value.slice pv nv cv).ownBlock = some g9 ∨ g9 = w7.heap.size + 1) (hf : (w9.setCell ⟨b2, 5, none⟩ u).grownBy W9 none) :
    LsU (fun k => B ≤ k ∧ k < W9.heap.size ∧ k ≠ b2 ∧ (Value.slice (some ⟨g9, 0, none⟩) n9 cap9).ownBlock ≠ some k) W9 (ks ++ [x]) (rows ++ [q]) := by
  have hat := OwnG.at hO
  have s7 := hg7.size
  have s9 := hg9.size
  have sf := hf.size
  have sc : (w9.setCell ⟨b2, 5, none⟩ u).heap.size = w9.heap.size := by simp [World.setCell]
  have fr : Fr2 (fun k => (Value.slice pv nv cv).ownBlock = some k ∨ k = b2) w7 W9 :=
    ((Fr2.none hga).trans ((Fr2.of hg9 (fun k e => .inl e)).trans ((Fr2.setCell (Fr2.refl _ _) (.inr rfl) u).trans (Fr2.none hf))))
  have hne : ∀ k, k < w7.heap.size → (Value.slice pv nv cv).ownBlock ≠ some k → (Value.slice (some ⟨g9, 0, none⟩) n9 cap9).ownBlock ≠ some k := fun k hk h1 e => by
    have e : g9 = k := Option.some.inj (show some g9 = some k from e)
    rcases hl9 with h | h
    · exact h1 (by rw [h, e])
    · omega
  have hno : ∀ k, wr.heap.size ≤ k → (Value.slice pv nv cv).ownBlock ≠ some k := fun k hk e => by have := hat _ e; omega
  refine LsU.snoc ?_ ?_
  · have h1 := RSt.same fr (fun k (hk : wr.heap.size ≤ k ∧ k < w7.heap.size) => fun e => by
      rcases e with e | e
      · exact hno k hk.1 e
      · omega) hq.bound
    exact RSt.mono (fun k hk => ⟨by omega, by omega, by omega, hne k hk.2 (hno k hk.1)⟩) h1
  · have h1 := LsU.same fr (fun k (hk : B ≤ k ∧ k < wr.heap.size ∧ k ≠ b2 ∧ (Value.slice pv nv cv).ownBlock ≠ some k) => fun e => by
      rcases e with e | e
      · exact hk.2.2.2 e
      · exact hk.2.2.1 e) (hLS.kept hg7)
    exact LsU.mono (fun k hk => ⟨hk.1, by omega, hk.2.2.1, hne k (by omega) hk.2.2.2⟩) h1

section
variable {b bb : Nat} {T : List Tok} {D n : Nat} {A0 : Nat → Prop} {vn0 : Value} {w0 w w' : World} {s : St} {u : Nat} {N : List Nd} {vn : Value} {L : List (Value × Th)}
theorem vat2 (w : World) (x y : Int) : VAt (w.alloc (.cells #[.int .i64 x, .int .i64 y] 3)) (some ⟨w.heap.size, 0, none⟩) (intsV [x, y]) := by
  refine .inr ⟨w.heap.size, 0, rfl, by simp, fun j v hj => ?_⟩
  rw [Nat.zero_add, cell_of_row _ _ j _ _ (0, 0) (heap_alloc_new w _)]
  simpa [intsV] using hj
theorem name_short (h : ¬ ((leafT T s).2.inn = true ∨ (isQ T [46] (leafT T s).2 = false ∧ isQ T [40] (leafT T s).2 = false))) {nt : NxT} : nameT T nt s = nameET T (nameDT T nt (nameCT T (nameBT T (leafT T s)))) := by unfold nameT; rw [if_neg h]
theorem name_word (h : (leafT T s).2.inn = true ∨ (isQ T [46] (leafT T s).2 = false ∧ isQ T [40] (leafT T s).2 = false)) {nt : NxT} : nameT T nt s = ([.nd 14 (leafT T s).1], (leafT T s).2) := by unfold nameT; rw [if_pos h]
/-- A call's end, where its arguments were read as the program does. -/
theorem name_end {nt : NxT} {c d : RT} (h : Eqv d (listP T nt.expr c.2)) (he : Eqv (listP T nt.expr c.2) (if isQ T [41] c.2 = true then ([], c.2) else argsT T nt c.2)) :
    Eqv ([.nd 13 (c.1 ++ d.1 ++ (mustT T [41] d.2).1)], (mustT T [41] d.2).2) (nameET T (nameDT T nt c)) := by
  have h1 : d.2 = (nameDT T nt c).2 ∧ ((nameDT T nt c).2.e = 0 → c.1 ++ d.1 = (nameDT T nt c).1) := by
    unfold nameDT
    by_cases hq : isQ T [41] c.2 = true
    · rw [if_pos hq] at he
      rw [if_pos hq]
      exact ⟨h.1.trans he.1, fun e => by rw [h.2 (by rw [he.1]; exact e), he.2 e, List.append_nil]⟩
    · rw [if_neg hq] at he
      rw [if_neg hq]
      exact ⟨h.1.trans he.1, fun e => by rw [h.2 (by rw [he.1]; exact e), he.2 e]⟩
  unfold nameET
  rw [h1.1]
  refine ⟨rfl, fun e => ?_⟩
  have h2 : (nameDT T nt c).2.e = 0 := by
    rcases Nat.eq_zero_or_pos (nameDT T nt c).2.e with h | h
    · exact h
    · exact absurd e (by show ¬ (mustT T [41] (nameDT T nt c).2).2.e = 0; rw [(must_keep T [41] (nameDT T nt c).2).dead (by omega)]; omega)
  show [Tr.nd 13 _] = [Tr.nd 13 _]
  rw [h1.2 h2]
end

section
variable (b bb : Nat) (T : List Tok) (D n : Nat)

set_option maxRecDepth 100000 in
set_option maxHeartbeats 4000000 in
theorem args_f (hX : SubI b bb T D n (fun s => s.inn = false) 168 (NT T D n).expr) : SubF b bb T D n (fun s => s.inn = false) 167 (NT T D n).expr := by
  intro A0 vn0 w0 w s N vn L g hP hk hm
  have HSX := Lib.hid hX; have HK := Lib.hid hk; have HPP := Lib.hid hP
  have c0 := hk.boxc hm
  clear hX hk hP hm
  go_enter Tryz.func167, Tryz.ntmps167
  go_wp2_with fail
  refine (HK.out.sub HSX.out HPP.out).mono ?_
  rintro e w9 ⟨v9, N9, vn9, rfl, hk9, ho9, hd9⟩
  have HQ : Hid (CPost b bb T D n 0 A0 vn0 w0 s ((NT T D n).expr s) N L (.returned (.int .i64 v9)) w9) := Lib.hid ⟨v9, N9, vn9, rfl, hk9, ho9, hd9⟩
  clear hk9 ho9 hd9
  go_wp2_with fail
  go_ret
  exact HQ.out

set_option maxRecDepth 100000 in
set_option maxHeartbeats 8000000 in
theorem named_p (hC : TokC T) (hX : SubI b bb T D n (fun s => s.inn = false) 168 (NT T D n).expr) : SubI b bb T D n (fun s => s.e = 0 ∧ (tokQ T s).kind = 1) 163 (nameT T (NT T D n)) := by
  intro s N vn A w hP h
  have HCC := Lib.hid hC
  have HLI := Lib.hid (show (tokQ T s).kind ≠ 5 ∧ s.e = 0 from ⟨by omega, hP.1⟩)
  have HFEW := Lib.hid h.few
  have HSF := Lib.hid (args_f b bb T D n hX)
  have HKE := Lib.hid (nx_keep T D (D - n)).expr
  have HLIST := Lib.hid (fun (s : St) (hi : s.i ≤ T.length) => list_parts T (nx_good T D (D - n)).expr (fun s he => ((nx_keep T D (D - n)).expr s).dead he) s hi)
  obtain ⟨g, hg⟩ : ∃ g, w.heap.size = g := ⟨_, rfl⟩
  have HK : Hid (KX b bb T D n A vn w (w.alloc (.cells #[.pointer (some ⟨b, 0, none⟩)] 64)) s s.i N vn [(boxV g, boxT b)]) := Lib.hid (by rw [← hg]; exact (KX.start h).boxed _ _)
  have c0 := HK.out.boxc (List.mem_cons_self ..)
  have HA := Lib.hid (OutL.nil N s)
  clear h hX hC hP
  go_enter Tryz.func163, Tryz.ntmps163
  go_wp2_with fail
  try rw [hg]
  refine (HK.out.take HCC.out HLI.out.1 HLI.out.2).mono ?_
  rintro e w1 ⟨v3, N1, vn1, rfl, hk, ho, hd⟩
  have HK := Lib.hid hk; have HO := Lib.hid ho; have HA := Lib.hid (HA.out.app ho.out hd); have HDD : Hid (s.e ≠ 0 → (leafT T s).2.e ≠ 0) := Lib.hid hd
  have HLV := Lib.hid (leaf_live T HLI.out.2)
  clear hk ho hd c0 hg
  have c0 := HK.out.boxc (List.mem_cons_self ..)
  have d0 := HK.out.cell
  have d7 := HK.out.innc
  obtain ⟨I, hI⟩ : ∃ I, (leafT T s).2.inn = I := ⟨_, rfl⟩
  have HI := Lib.hid hI
  rw [hI] at d7
  clear hI
  cases I
  rotate_left
  · go_wp2_with fail
    refine (KX.node (k := 0) (kind := 14) (HK.out.ints1 _) (List.mem_cons_self ..) HCC.out.len HO.out rfl HFEW.out (by simp)).mono ?_
    rintro e w9 ⟨v9, N9, vn9, rfl, hk9, ho9⟩
    have HQ := Lib.hid (KX.fin ho9 hk9 HDD.out (r' := nameT T (NT T D n) s) (by rw [name_word (.inl HI.out)]; exact Eqv.refl _))
    clear hk9 ho9
    go_wp2_with fail
    go_ret
    exact HQ.out
  · go_wp2_with fail
    refine (KX.at (ws := [[46], [40]]) (HK.out.strs2 _ _ _) (List.mem_cons_self ..) (by decide)).mono ?_
    rintro e w2 ⟨rfl, hk⟩
    have HK := Lib.hid (hk.few (List.sublist_cons_self _ _))
    obtain ⟨b2, hb⟩ : ∃ b2, atQ T [[46], [40]] (leafT T s).2 = b2 := ⟨_, rfl⟩
    rw [hb]
    have HV2 : Hid ((isQ T [46] (leafT T s).2 || isQ T [40] (leafT T s).2) = b2) := Lib.hid (by rw [← hb, at_any HCC.out (by decide)]; simp)
    clear hk hb c0 d0 d7
    have c0 := HK.out.boxc (List.mem_cons_self ..)
    have d0 := HK.out.cell
    cases b2
    · go_wp2_with fail
      refine (KX.node (k := 0) (kind := 14) (HK.out.ints1 _) (List.mem_cons_self ..) HCC.out.len HO.out rfl HFEW.out (by simp)).mono ?_
      rintro e w9 ⟨v9, N9, vn9, rfl, hk9, ho9⟩
      have HQ := Lib.hid (KX.fin ho9 hk9 HDD.out (r' := nameT T (NT T D n) s) (by rw [name_word (.inr (Bool.or_eq_false_iff.1 HV2.out))]; exact Eqv.refl _))
      clear hk9 ho9
      go_wp2_with fail
      go_ret
      exact HQ.out
    · have HSH := Lib.hid (name_short (T := T) (s := s) (nt := NT T D n) (fun e => by
        rcases e with e | e
        · rw [HI.out] at e; cases e
        · have h9 := HV2.out; rw [e.1, e.2] at h9; cases h9))
      have HK := Lib.hid (HK.out.ints1 v3)
      clear c0 d0
      have c0 := HK.out.boxc (List.mem_cons_of_mem _ (List.mem_cons_self ..))
      go_wp2_with fail
      refine (KX.atx (ws := [[46]]) (HK.out.strs1 _ _) ⟨_, by simp, List.mem_cons_self ..⟩ (by decide)).mono ?_
      rintro e w3 ⟨rfl, hk⟩
      have HK := Lib.hid (hk.few (List.sublist_cons_self _ _))
      obtain ⟨b3, hb⟩ : ∃ b3, isQ T [46] (leafT T s).2 = b3 := ⟨_, rfl⟩
      rw [at_one HCC.out (by decide), hb]
      have HV3 := Lib.hid hb
      clear hk hb c0
      cases b3
      · obtain ⟨a, vs, HAE, HK, HA, HVS, HDD, HIN⟩ : ∃ (a : RT) (vs : List Int), Hid (nameBT T (leafT T s) = a) ∧ Hid (KX b bb T D n A vn w w3 a.2 a.2.i N1 vn1 [(.slice (some ⟨w2.heap.size, 0, none⟩) 1 1, .ints vs), (boxV g, boxT b)]) ∧ Hid (OutL 1 N s a N1 vs) ∧ Hid (vs.length ≤ 3) ∧ Hid (s.e ≠ 0 → a.2.e ≠ 0) ∧ Hid (a.2.inn = false) :=
          ⟨leafT T s, [v3], Lib.hid (by unfold nameBT; rw [if_neg (by rw [HV3.out]; decide)]), HK, Lib.hid HO.out.out, Lib.hid (by simp), HDD, HI⟩
        have c0 := HK.out.boxc (List.mem_cons_of_mem _ (List.mem_cons_self ..))
        go_wp2_with fail
        refine (KX.one1 [40] (HK.out.strs1 _ _) HCC.out (by decide) ⟨_, rfl, List.mem_cons_self ..⟩).mono ?_
        rintro e w5 ⟨v5, N5, vn5, rfl, hk, ho, hd⟩
        have HK := Lib.hid (hk.few (List.sublist_cons_self _ _)); have HIN := Lib.hid ((must_keep T [40] a.2).inn.trans HIN.out)
        obtain ⟨l5, hl5⟩ : ∃ l5, vs ++ [v5] = l5 := ⟨_, rfl⟩
        have HL5 : Hid (l5.length ≤ 4) := Lib.hid (by rw [← hl5, List.length_append]; have := HVS.out; simp; omega)
        have HA : Hid (OutL 1 N s (nameCT T a) N5 l5) := Lib.hid (by rw [← hl5]; exact (HA.out.app ho.out hd).weak (by decide)); have HDD : Hid (s.e ≠ 0 → (nameCT T a).2.e ≠ 0) := Lib.hid (fun h => hd (HDD.out h))
        have HE5 := Lib.hid hl5
        clear hk ho hd c0 hl5
        go_wp2_with (at_builtin; go_loud (refine wpList_kx rfl _ _ rfl (HK.out.ints1 v5) (List.sublist_cons_self _ _) rfl rfl (l2 := [v5]) rfl (vat1 _ _) (by have := HVS.out; omega) (by simp) ?_))
        intro kv6 w6 hk6
        rw [HE5.out] at hk6
        have HK : Hid (KX b bb T D n A vn w w6 (nameCT T a).2 (nameCT T a).2.i N5 vn5 [(kv6, .ints l5), (boxV g, boxT b)]) := Lib.hid hk6
        have HIN : Hid ((nameCT T a).2.inn = false) := HIN
        obtain ⟨c, hc⟩ : ∃ c, nameCT T a = c := ⟨_, rfl⟩
        have HCE := Lib.hid hc
        rw [hc] at HK HA HDD HIN
        have HCI : Hid (c.2.i ≤ T.length) := Lib.hid (Nat.le_of_lt HK.out.ok)
        clear hk6 hc
        have c0 := HK.out.boxc (List.mem_cons_of_mem _ (List.mem_cons_self ..))
        go_wp2_with fail
        refine (list_args b bb T D n HCC.out _ HSF.out (fun s hs => ((HKE.out s).inn).trans hs) HK.out (List.mem_cons_of_mem _ (List.mem_cons_self ..)) HIN.out).mono ?_
        rintro e w7 ⟨lv, ls, N7, vn7, rfl, hk7, ho7, hd7, hl7⟩
        obtain ⟨q7, c7, rfl, hv7, -, -⟩ := hk7.list (List.mem_cons_self ..)
        have HK := Lib.hid hk7; have HVV := Lib.hid hv7; have HL7 := Lib.hid hl7
        obtain ⟨l7, hl77⟩ : ∃ l7, l5 ++ ls = l7 := ⟨_, rfl⟩
        have HE7 := Lib.hid hl77
        have HLL : Hid (l7.length ≤ 310) := Lib.hid (by rw [← hl77, List.length_append]; have := HL5.out; omega)
        have HA : Hid (OutL 1 N s (c.1 ++ (listP T (NT T D n).expr c.2).1, (listP T (NT T D n).expr c.2).2) N7 l7) := Lib.hid (by rw [← hl77]; exact (HA.out.app ho7 hd7).weak (by decide)); have HDD := Lib.hid (fun h => hd7 (HDD.out h))
        obtain ⟨m7, hm7⟩ : ∃ m7, ls.length = m7 := ⟨_, rfl⟩
        have HM7 := Lib.hid hm7
        rw [hm7] at HK ⊢
        clear hk7 ho7 hd7 hl7 hv7 hl77 hm7 c0
        go_wp2_with (at_builtin; go_loud (refine wpList_kx rfl _ _ rfl HK.out (List.sublist_cons_self _ _) rfl rfl (l2 := ls) HM7.out HVV.out (by have := HL5.out; omega) (by have := HL7.out; omega) ?_))
        intro kv8 w8 hk8
        rw [HE7.out] at hk8
        have HK := Lib.hid hk8; have HBM : Hid ((boxV g, boxT b) ∈ [(kv8, Th.ints l7), (boxV g, boxT b)]) := Lib.hid (List.mem_cons_of_mem _ (List.mem_cons_self ..))
        clear hk8
        go_wp2_with fail
        have HKD := HK
        have HK := Lib.hid HK.out.drew
        have HKS1 : Hid ([41] ∈ KS) := Lib.hid (by decide)
        go_region_held3 (fun w' => w'.cell? ⟨g, 0, none⟩ = some (.pointer (some ⟨b, 0, none⟩)) ∧ w'.cell? ⟨b, 0, none⟩ = some (.pointer (some ⟨bb, 0, none⟩))) (first | exact ⟨HK.out.boxc (by first | exact (List.mem_cons_of_mem _ (List.mem_cons_self ..)) | exact (List.mem_cons_of_mem _ (List.mem_cons_of_mem _ (List.mem_cons_self ..)))), HK.out.cell⟩ | exact ⟨(HK.out.alloc _).boxc (by first | exact (List.mem_cons_of_mem _ (List.mem_cons_self ..)) | exact (List.mem_cons_of_mem _ (List.mem_cons_of_mem _ (List.mem_cons_self ..)))), (HK.out.alloc _).cell⟩ | exact ⟨(HKD.out.alloc _).drew.boxc (by first | exact (List.mem_cons_of_mem _ (List.mem_cons_self ..)) | exact (List.mem_cons_of_mem _ (List.mem_cons_of_mem _ (List.mem_cons_self ..)))), (HKD.out.alloc _).drew.cell⟩ | exact ⟨((HK.out.alloc _).alloc _).boxc (by first | exact (List.mem_cons_of_mem _ (List.mem_cons_self ..)) | exact (List.mem_cons_of_mem _ (List.mem_cons_of_mem _ (List.mem_cons_self ..)))), ((HK.out.alloc _).alloc _).cell⟩)
          (first
            | (refine step_kx rfl _ _ rfl ((HK.out.few (List.sublist_cons_self _ _)).ints1 _) (List.sublist_cons_self _ _) rfl rfl (l2 := [_]) rfl (vat1 _ _) (by have := HLL.out; omega) (by simp) ?_; intro v8 w9 hk9; have HK := Lib.hid hk9; clear hk9)
            | (go_at_call 165; (first | with_reducible refine (KX.one1 [41] (HK.out.strs1 _ _) HCC.out HKS1.out ?_).mono ?_ | with_reducible refine (KX.one1 [41] (HKD.out.strs1 _ _).drew HCC.out HKS1.out ?_).mono ?_); (refine ⟨_, ?_, List.mem_cons_self ..⟩; first | rfl | (simp; done)); rintro e w9 ⟨v9, N9, vn9, rfl, hk9, ho9, hd9⟩; have HK := Lib.hid hk9; have HD := Lib.hid (OutD.app HA.out ho9 hd9); clear hk9 ho9 hd9)
            | (go_at_call 42; have HDW := Lib.hid (HD.out.weak (j := 0 + 1) (by decide)); refine (KX.node (k := 0) (kind := 13) HK.out ?_ HCC.out.len HDW.out ?_ HFEW.out ?_).mono ?_; exact List.mem_cons_self ..; rfl; (have := HLL.out; rw [List.length_append]; simp; omega); rintro e w9 ⟨v9, N9, vn9, rfl, hk9, ho9⟩; have HK := Lib.hid hk9; have HZ := Lib.hid ho9; clear hk9 ho9))
        all_goals
          have HQ := Lib.hid (KX.fin HZ.out HK.out (fun he => absurd HLI.out.2 he) (r' := nameT T (NT T D n) s) (by rw [HSH.out, HAE.out, HCE.out]; exact name_end (Eqv.refl _) (HLIST.out c.2 HCI.out)))
          go_wp2_with fail
          go_ret
          exact HQ.out
      · have HLJ := Lib.hid (is_kind HV3.out)
        go_wp2_with fail
        have HKD := HK
        have HK := Lib.hid HK.out.drew
        have HA := Lib.hid HO.out.out
        have HBM : Hid ((boxV g, boxT b) ∈ [(.slice (some ⟨w2.heap.size, 0, none⟩) 1 1, Th.ints [v3]), (boxV g, boxT b)]) := Lib.hid (List.mem_cons_of_mem _ (List.mem_cons_self ..))
        go_region_held3 (fun w' => w'.cell? ⟨g, 0, none⟩ = some (.pointer (some ⟨b, 0, none⟩))) (first | exact HK.out.boxc (List.mem_cons_of_mem _ (List.mem_cons_self ..)) | exact (HK.out.alloc _).boxc (List.mem_cons_of_mem _ (List.mem_cons_self ..)))
          (first
            | (refine step_kx rfl _ _ rfl (HK.out.ints2 _ _) (List.sublist_cons_self _ _) rfl rfl (l2 := [_, _]) rfl (vat2 _ _ _) (by simp) (by simp) ?_; intro kv4 w9 hk9; have HK := Lib.hid hk9; clear hk9)
            | (go_at_call 76; (with_reducible refine (HK.out.take HCC.out HLJ.out.1 HLJ.out.2).mono ?_); rintro e w9 ⟨v9, N9, vn9, rfl, hk9, ho9, hd9⟩; have HK := Lib.hid hk9; have HA := Lib.hid (HA.out.app ho9.out hd9); clear hk9 ho9 hd9)
            | (go_at_call 45; (with_reducible refine (HK.out.word HCC.out).mono ?_); rintro e w9 ⟨v9, N9, vn9, rfl, hk9, ho9, hd9⟩; have HK := Lib.hid hk9; have HA := Lib.hid (HA.out.app ho9.out hd9); clear hk9 ho9 hd9))
        all_goals
          obtain ⟨a, vs, HAE, HK, HA, HVS, HDD, HIN⟩ : ∃ (a : RT) (vs : List Int), Hid (nameBT T (leafT T s) = a) ∧ Hid (KX b bb T D n A vn w w9 a.2 a.2.i N9 vn9 [(kv4, .ints vs), (boxV g, boxT b)]) ∧ Hid (OutL 1 N s a N9 vs) ∧ Hid (vs.length ≤ 3) ∧ Hid (s.e ≠ 0 → a.2.e ≠ 0) ∧ Hid (a.2.inn = false) :=
            ⟨((leafT T s).1 ++ (leafT T (leafT T s).2).1 ++ (kindT T 1 (leafT T (leafT T s).2).2).1, (kindT T 1 (leafT T (leafT T s).2).2).2), _, Lib.hid (by unfold nameBT; rw [if_pos HV3.out]), HK, Lib.hid (by have h9 := HA.out.weak (j := 1) (by decide); rw [List.append_assoc [v3]] at h9; exact h9), Lib.hid (by simp), Lib.hid (fun h => absurd HLI.out.2 h), Lib.hid ((kind_keep T 1 _).inn.trans ((leaf_keep T HLJ.out.2).inn.trans HI.out))⟩
          have c0 := HK.out.boxc (List.mem_cons_of_mem _ (List.mem_cons_self ..))
          go_wp2_with fail
          refine (KX.one1 [40] (HK.out.strs1 _ _) HCC.out (by decide) ⟨_, rfl, List.mem_cons_self ..⟩).mono ?_
          rintro e w5 ⟨v5, N5, vn5, rfl, hk, ho, hd⟩
          have HK := Lib.hid (hk.few (List.sublist_cons_self _ _)); have HIN := Lib.hid ((must_keep T [40] a.2).inn.trans HIN.out)
          obtain ⟨l5, hl5⟩ : ∃ l5, vs ++ [v5] = l5 := ⟨_, rfl⟩
          have HL5 : Hid (l5.length ≤ 4) := Lib.hid (by rw [← hl5, List.length_append]; have := HVS.out; simp; omega)
          have HA : Hid (OutL 1 N s (nameCT T a) N5 l5) := Lib.hid (by rw [← hl5]; exact (HA.out.app ho.out hd).weak (by decide)); have HDD : Hid (s.e ≠ 0 → (nameCT T a).2.e ≠ 0) := Lib.hid (fun h => hd (HDD.out h))
          have HE5 := Lib.hid hl5
          clear hk ho hd c0 hl5
          go_wp2_with (at_builtin; go_loud (refine wpList_kx rfl _ _ rfl (HK.out.ints1 v5) (List.sublist_cons_self _ _) rfl rfl (l2 := [v5]) rfl (vat1 _ _) (by have := HVS.out; omega) (by simp) ?_))
          intro kv6 w6 hk6
          rw [HE5.out] at hk6
          have HK : Hid (KX b bb T D n A vn w w6 (nameCT T a).2 (nameCT T a).2.i N5 vn5 [(kv6, .ints l5), (boxV g, boxT b)]) := Lib.hid hk6
          have HIN : Hid ((nameCT T a).2.inn = false) := HIN
          obtain ⟨c, hc⟩ : ∃ c, nameCT T a = c := ⟨_, rfl⟩
          have HCE := Lib.hid hc
          rw [hc] at HK HA HDD HIN
          have HCI : Hid (c.2.i ≤ T.length) := Lib.hid (Nat.le_of_lt HK.out.ok)
          clear hk6 hc
          have c0 := HK.out.boxc (List.mem_cons_of_mem _ (List.mem_cons_self ..))
          go_wp2_with fail
          refine (list_args b bb T D n HCC.out _ HSF.out (fun s hs => ((HKE.out s).inn).trans hs) HK.out (List.mem_cons_of_mem _ (List.mem_cons_self ..)) HIN.out).mono ?_
          rintro e w7 ⟨lv, ls, N7, vn7, rfl, hk7, ho7, hd7, hl7⟩
          obtain ⟨q7, c7, rfl, hv7, -, -⟩ := hk7.list (List.mem_cons_self ..)
          have HK := Lib.hid hk7; have HVV := Lib.hid hv7; have HL7 := Lib.hid hl7
          obtain ⟨l7, hl77⟩ : ∃ l7, l5 ++ ls = l7 := ⟨_, rfl⟩
          have HE7 := Lib.hid hl77
          have HLL : Hid (l7.length ≤ 310) := Lib.hid (by rw [← hl77, List.length_append]; have := HL5.out; omega)
          have HA : Hid (OutL 1 N s (c.1 ++ (listP T (NT T D n).expr c.2).1, (listP T (NT T D n).expr c.2).2) N7 l7) := Lib.hid (by rw [← hl77]; exact (HA.out.app ho7 hd7).weak (by decide)); have HDD := Lib.hid (fun h => hd7 (HDD.out h))
          obtain ⟨m7, hm7⟩ : ∃ m7, ls.length = m7 := ⟨_, rfl⟩
          have HM7 := Lib.hid hm7
          rw [hm7] at HK ⊢
          clear hk7 ho7 hd7 hl7 hv7 hl77 hm7 c0
          go_wp2_with (at_builtin; go_loud (refine wpList_kx rfl _ _ rfl HK.out (List.sublist_cons_self _ _) rfl rfl (l2 := ls) HM7.out HVV.out (by have := HL5.out; omega) (by have := HL7.out; omega) ?_))
          intro kv8 w8 hk8
          rw [HE7.out] at hk8
          have HK := Lib.hid hk8; have HBM : Hid ((boxV g, boxT b) ∈ [(kv8, Th.ints l7), (boxV g, boxT b)]) := Lib.hid (List.mem_cons_of_mem _ (List.mem_cons_self ..))
          clear hk8
          go_wp2_with fail
          have HKD := HK
          have HK := Lib.hid HK.out.drew
          have HKS1 : Hid ([41] ∈ KS) := Lib.hid (by decide)
          go_region_held3 (fun w' => w'.cell? ⟨g, 0, none⟩ = some (.pointer (some ⟨b, 0, none⟩)) ∧ w'.cell? ⟨b, 0, none⟩ = some (.pointer (some ⟨bb, 0, none⟩))) (first | exact ⟨HK.out.boxc (by first | exact (List.mem_cons_of_mem _ (List.mem_cons_self ..)) | exact (List.mem_cons_of_mem _ (List.mem_cons_of_mem _ (List.mem_cons_self ..)))), HK.out.cell⟩ | exact ⟨(HK.out.alloc _).boxc (by first | exact (List.mem_cons_of_mem _ (List.mem_cons_self ..)) | exact (List.mem_cons_of_mem _ (List.mem_cons_of_mem _ (List.mem_cons_self ..)))), (HK.out.alloc _).cell⟩ | exact ⟨(HKD.out.alloc _).drew.boxc (by first | exact (List.mem_cons_of_mem _ (List.mem_cons_self ..)) | exact (List.mem_cons_of_mem _ (List.mem_cons_of_mem _ (List.mem_cons_self ..)))), (HKD.out.alloc _).drew.cell⟩ | exact ⟨((HK.out.alloc _).alloc _).boxc (by first | exact (List.mem_cons_of_mem _ (List.mem_cons_self ..)) | exact (List.mem_cons_of_mem _ (List.mem_cons_of_mem _ (List.mem_cons_self ..)))), ((HK.out.alloc _).alloc _).cell⟩)
            (first
              | (refine step_kx rfl _ _ rfl ((HK.out.few (List.sublist_cons_self _ _)).ints1 _) (List.sublist_cons_self _ _) rfl rfl (l2 := [_]) rfl (vat1 _ _) (by have := HLL.out; omega) (by simp) ?_; intro v8 w9 hk9; have HK := Lib.hid hk9; clear hk9)
              | (go_at_call 165; (first | with_reducible refine (KX.one1 [41] (HK.out.strs1 _ _) HCC.out HKS1.out ?_).mono ?_ | with_reducible refine (KX.one1 [41] (HKD.out.strs1 _ _).drew HCC.out HKS1.out ?_).mono ?_); (refine ⟨_, ?_, List.mem_cons_self ..⟩; first | rfl | (simp; done)); rintro e w9 ⟨v9, N9, vn9, rfl, hk9, ho9, hd9⟩; have HK := Lib.hid hk9; have HD := Lib.hid (OutD.app HA.out ho9 hd9); clear hk9 ho9 hd9)
              | (go_at_call 42; have HDW := Lib.hid (HD.out.weak (j := 0 + 1) (by decide)); refine (KX.node (k := 0) (kind := 13) HK.out ?_ HCC.out.len HDW.out ?_ HFEW.out ?_).mono ?_; exact List.mem_cons_self ..; rfl; (have := HLL.out; rw [List.length_append]; simp; omega); rintro e w9 ⟨v9, N9, vn9, rfl, hk9, ho9⟩; have HK := Lib.hid hk9; have HZ := Lib.hid ho9; clear hk9 ho9))
          all_goals
            have HQ := Lib.hid (KX.fin HZ.out HK.out (fun he => absurd HLI.out.2 he) (r' := nameT T (NT T D n) s) (by rw [HSH.out, HAE.out, HCE.out]; exact name_end (Eqv.refl _) (HLIST.out c.2 HCI.out)))
            go_wp2_with fail
            go_ret
            exact HQ.out
end
end Go.Proofs.YtddccnpohpaofaaGreatDoor
namespace Go.Proofs.YtddccnpohpaofaaGreatDoor
open Go.RowKit

theorem OwnG.takeS {s c : Nat} {T : TypeId} {w : World} {B : Nat} {p : Option Addr} {l1 : List (List Value)} : ∀ (l2 : List (List Value)) (n : Nat), OwnG s T w B (.slice p n c) (l1 ++ l2) → OwnG s T w B (.slice p l1.length c) l1 := by
  intro l2
  obtain ⟨m, hm⟩ : ∃ m, l2.length = m := ⟨_, rfl⟩
  induction m generalizing l2 with
  | zero =>
    intro n h
    have := List.eq_nil_of_length_eq_zero hm
    subst this
    rw [List.append_nil] at h
    obtain ⟨p', c', e, -⟩ := h.is
    injection e with e1 e2 e3
    rw [← e2]; exact h
  | succ m ih =>
    intro n h
    rcases list_lastS l2 with rfl | ⟨l3, x, rfl⟩
    · simp at hm
    rw [← List.append_assoc] at h
    exact ih l3 (by simpa using hm) _ h.popS.2.1
/-- What lies in a stack's rows. -/
def StkAt (B : Nat) (w : World) (v : Value) (o : List Sx) (rows : List (List Value)) : Prop :=
  OwnG 8 30 w B v rows ∧ LsS (fun k => B ≤ k ∧ k < w.heap.size ∧ v.ownBlock ≠ some k) w o rows ∧ B ≤ w.heap.size
theorem StkAt.kept {B : Nat} {w w' : World} {v : Value} {o : List Sx} {rows : List (List Value)} (h : StkAt B w v o rows) (hg : w.grownBy w' none) : StkAt B w' v o rows :=
  ⟨h.1.kept hg, LsS.mono (fun k hk => ⟨hk.1, Nat.lt_of_lt_of_le hk.2.1 hg.size, hk.2.2⟩) (h.2.1.kept hg), Nat.le_trans h.2.2 hg.size⟩
theorem SAt.eight {F : Nat → Prop} {w : World} {x : Sx} {q : List Value} (h : SAt F w x q) : (∃ a0 a1 a2 a3 a4 a5 a6 a7, q = [a0, a1, a2, a3, a4, a5, a6, a7]) ∧ ∀ u ∈ q, u.oneCell' = true := by
  cases x with
  | mk op nm md nu ys ks ps =>
    simp only [SAt] at h
    obtain ⟨s, pw, nw, cw, pk, ck, rows, rfl, -⟩ := h
    refine ⟨⟨_, _, _, _, _, _, _, _, rfl⟩, fun u hu => ?_⟩
    simp only [List.mem_cons, List.not_mem_nil, or_false] at hu
    rcases hu with rfl | rfl | rfl | rfl | rfl | rfl | rfl | rfl <;> rfl
theorem LsS.split {F : Nat → Prop} {w : World} : ∀ {l1 l2 : List Sx} {r : List (List Value)}, LsS F w (l1 ++ l2) r → ∃ r1 r2, r = r1 ++ r2 ∧ LsS F w l1 r1 ∧ LsS F w l2 r2
  | [], l2, r, h => ⟨[], r, rfl, LsS.nil, h⟩
  | x :: l1, l2, r, h => by
    simp only [List.cons_append, LsS] at h
    obtain ⟨q, r', rfl, h1, h2⟩ := h
    obtain ⟨r1, r2, rfl, h3, h4⟩ := LsS.split h2
    exact ⟨q :: r1, r2, rfl, by simp only [LsS]; exact ⟨q, r1, rfl, h1, h3⟩, h4⟩
/-- An expression put together of what was taken off the stack: its kids' row lies in memory of its own. -/
theorem made_at {B : Nat} {w : World} {v : Value} {o : List Sx} {rows : List (List Value)} {op : Int} {nm md : List UInt8} {nu : Int} {ys : Bool} {s : Bool} {pw pk : Option Addr} {nw cw nk ck B2 : Nat} {F : Nat → Prop}
    (hi : Zd.IsInt w (.agg #[.bool s, .slice pw nw cw]) nu) (hiF : 0 < nw → ∃ a, pw = some a ∧ F a.block) (hO : OwnG 8 30 w B2 (.slice pk nk ck) rows) (hls : LsS F w o rows) (hF : ∀ k, B2 ≤ k → k < w.heap.size → F k) :
    SAt F w (.mk op nm md nu ys o 0) [.int .i64 op, strV nm, strV md, .bool s, .slice pw nw cw, .bool ys, .slice pk nk ck, .int .i64 0] := by
  obtain ⟨hn, hrow, hblk⟩ := OwnG.rowsU hO
  have hrl := hls.len
  simp only [SAt]
  refine ⟨s, pw, nw, cw, pk, ck, rows, by rw [hn, hrl], hi, hiF, hrow, hls, fun h0 => ?_⟩
  have hne : rows ≠ [] := fun e => by rw [e] at hrl; exact h0 (List.eq_nil_of_length_eq_zero hrl.symm)
  obtain ⟨a, ha, h1, h2⟩ := hblk hne
  rcases hO.1.2 with ⟨e, -⟩ | ⟨g, cap, cur, e, hb, hg, -⟩
  · injection e with e1; rw [ha] at e1; cases e1
  · injection e with e1
    rw [ha] at e1
    injection e1 with e1
    subst e1
    exact ⟨_, ha, hF _ h1 h2, _, _, hg⟩
theorem own_tail {w : World} {B ga n c nd : Nat} {r1 r2 : List (List Value)} (h : OwnG 8 30 w B (.slice (some ⟨ga, 0, none⟩) n c) (r1 ++ r2)) (hd : r1.length = nd) : GAt 8 w (some ⟨ga, nd * 8, none⟩) r2 := by
  have hga : ga < w.heap.size := (h.at ga rfl).2
  refine .inr ⟨ga, nd * 8, rfl, hga, fun j q hj i v hi => ?_⟩
  have := h.cellS (j := nd + j) (i := i) (q := q) (v := v) (by rw [List.getElem?_append_right (by omega), hd, show nd + j - nd = j by omega]; exact hj) hi
  rwa [Nat.add_mul] at this
/-- The stack with one more. -/
theorem StkAt.push {B n n9 c g' cap' H : Nat} {w w' : World} {p : Option Addr} {o1 o2 : List Sx} {r1 r2 : List (List Value)} {x : Sx} {q : List Value} (h : StkAt B w (.slice p n c) (o1 ++ o2) (r1 ++ r2)) (hr : r1.length = o1.length)
    (hx : SAt (fun k => B ≤ k ∧ k < w.heap.size ∧ (Value.slice p n c).ownBlock ≠ some k) w x q) (hO : OwnG 8 30 w' B (.slice (some ⟨g', 0, none⟩) n9 cap') (r1 ++ [q])) (hg : w.grownBy w' (Value.slice p r1.length c).ownBlock) (hH : (Value.slice p r1.length c).ownBlock = some g' ∨ g' = H) (hHw : w.heap.size ≤ H) :
    StkAt B w' (.slice (some ⟨g', 0, none⟩) n9 cap') (o1 ++ [x]) (r1 ++ [q]) := by
  have ho : (Value.slice p r1.length c).ownBlock = (Value.slice p n c).ownBlock := by cases p <;> rfl
  rw [ho] at hg hH
  have hf : Fr2 (fun k => (Value.slice p n c).ownBlock = some k) w w' := Fr2.of hg (fun k e => e)
  have hsz := hg.size
  have hk : ∀ k, (B ≤ k ∧ k < w.heap.size ∧ (Value.slice p n c).ownBlock ≠ some k) → B ≤ k ∧ k < w'.heap.size ∧ (Value.slice (some ⟨g', 0, none⟩) n9 cap').ownBlock ≠ some k := fun k hk => ⟨hk.1, Nat.lt_of_lt_of_le hk.2.1 hsz, fun e => by
    have e : g' = k := Option.some.inj (show some g' = some k from e)
    rcases hH with h2 | h2
    · exact hk.2.2 (by rw [h2, e])
    · have := hk.2.1; omega⟩
  refine ⟨hO, ?_, Nat.le_trans h.2.2 hsz⟩
  obtain ⟨a1, a2, e, h1, h2⟩ := LsS.split h.2.1
  have hl : a1.length = r1.length := by rw [h1.len, hr]
  have ha : a1 = r1 := (List.append_inj e hl.symm).1.symm
  subst ha
  exact LsS.snoc (SAt.mono hk (SAt.same hf (fun k hk e => hk.2.2 e) hx)) (LsS.mono hk (LsS.same hf (fun k hk e => hk.2.2 e) h1))

mutual
/-- More than an expression's text has bytes. -/
def tbS : Sx → Nat
  | .mk _ nm md nu _ ks _ => 100 + nm.length + md.length + (Zd.txtL nu).length + tbSs ks
def tbSs : List Sx → Nat
  | [] => 0
  | x :: l => 4 + tbS x + tbSs l
end
def sumTx : List (Int × List UInt8) → Nat
  | [] => 0
  | a :: l => 4 + a.2.length + sumTx l
theorem wrap_len (op : Int) (t : List UInt8) (least : Nat) : (wrapT op t least).length ≤ t.length + 2 := by
  unfold wrapT; split <;> simp
theorem three_len : ∀ (k : List (Int × List UInt8)), (k.getD 0 (1, [])).2.length + (k.getD 1 (1, [])).2.length + (k.getD 2 (1, [])).2.length ≤ sumTx k
  | [] => by simp [sumTx]
  | [a] => by simp [sumTx]
  | [a, b] => by simp [sumTx]; omega
  | a :: b :: c :: l => by simp [sumTx]; omega
theorem join_len : ∀ k : List (Int × List UInt8), (joinT (k.map (·.2))).length ≤ sumTx k
  | [] => by simp [joinT, sumTx]
  | [a] => by simp [joinT, sumTx]
  | a :: b :: l => by
    have := join_len (b :: l)
    simp only [List.map_cons] at this
    simp only [List.map_cons, joinT, List.length_append, List.length_cons, List.length_nil, sumTx] at this ⊢; omega
theorem signT_len (op : Int) : (signS op).length ≤ 2 := by
  unfold signS
  rw [List.getD_eq_getElem?_getD]
  cases h : ([[43], [45], [42], [47], [37], [61], [60, 62], [60], [60, 61], [62], [62, 61], [38, 38], [124, 124], [61, 62]] : List (List UInt8))[(op - 7).toNat]? with
  | none => simp
  | some a =>
    have h2 := List.mem_of_getElem? h
    simp only [List.mem_cons, List.not_mem_nil, or_false] at h2
    rcases h2 with h | h | h | h | h | h | h | h | h | h | h | h | h | h <;> subst h <;> simp
theorem ite_le {c : Prop} [Decidable c] {a b : List UInt8} {n : Nat} (ha : a.length ≤ n) (hb : b.length ≤ n) : (if c then a else b).length ≤ n := by
  split
  · exact ha
  · exact hb
theorem node_len (op : Int) (nm md : List UInt8) (nu : Int) (ys : Bool) (k : List (Int × List UInt8)) : (nodeT op nm md nu ys k).length ≤ 100 + nm.length + md.length + (Zd.txtL nu).length + sumTx k := by
  have h3 := three_len k
  have hj := join_len k
  have hs := signT_len op
  have hw := fun j l => wrap_len (k.getD j (1, [])).1 (k.getD j (1, [])).2 l
  have a0 := hw 0 9
  have a1 := hw 0 4
  have b0 := hw 0 0
  have b1 := hw 1 0
  have b2 := hw 2 0
  have d0 := hw 0 (sideA (levS op))
  have d1 := hw 1 (sideB (levS op))
  simp only [nodeT]
  have hm : (if md = [] then [] else md ++ [46]).length ≤ md.length + 1 := ite_le (by simp) (by simp)
  clear hw
  generalize Zd.txtL nu = tl
  repeat' (refine ite_le ?_ ?_)
  all_goals try simp only [List.length_append, List.length_cons, List.length_nil]
  all_goals omega
mutual
theorem tb_len : ∀ x : Sx, (txS x).length ≤ tbS x
  | .mk op nm md nu ys ks ps => by
    have h1 := node_len op nm md nu ys (txSs ks)
    have h2 := tb_lens ks
    simp only [txS, tbS]; omega
theorem tb_lens : ∀ l : List Sx, sumTx (txSs l) ≤ tbSs l
  | [] => Nat.le_refl _
  | x :: l => by
    have h1 := tb_len x
    have h2 := tb_lens l
    simp only [txSs, sumTx, tbSs]; omega
end
theorem tbSs_mem : ∀ {l : List Sx} {j : Nat} {x : Sx}, l[j]? = some x → tbS x ≤ tbSs l
  | [], j, x, h => by simp at h
  | y :: l, 0, x, h => by simp at h; subst h; simp only [tbSs]; omega
  | y :: l, j + 1, x, h => by
    have := tbSs_mem (l := l) (j := j) (x := x) (by simpa using h)
    simp only [tbSs]; omega
end Go.Proofs.YtddccnpohpaofaaGreatDoor
