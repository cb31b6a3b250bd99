/- The law on plays, walked. -/
import Derived.Test.YtponbjocaackcaaLRTake
import Derived.Deep.Slices
import Derived.ChangeArms
import Derived.OpenShut
import Derived.Deep.RegionHeld3
namespace Go.Proofs.Ytponbjocaackcaa
open Go.RowKit Go.Conc

/-! ### Steps that came in -/

def OpsB (w : World) (p : Option Addr) (m : Nat) (D K : Nat → Int) (V : Nat → Bool) : Prop :=
  m = 0 ∨ ∃ g off, p = some ⟨g, off, none⟩ ∧ g < w.heap.size ∧ ∀ j, j < m → w.cell? ⟨g, off + j * 3, none⟩ = some (.int .i64 (D j)) ∧ w.cell? ⟨g, off + j * 3 + 1, none⟩ = some (.int .i64 (K j)) ∧ w.cell? ⟨g, off + j * 3 + 2, none⟩ = some (.bool (V j))

section
open Go.ChangeShapes Go.WideShapes Go.Deep
variable {H : Type} {enc : TypeId × Value → H} {P : Program} {w : World} {base : Nat} {spare : Nat → Bool} {held : Bool}

theorem open_opsB {t e : TypeId} {f0 f1 f2 : Field} {fuel : Nat} {v : Option Addr} {n c : Nat} {x : DataW H × List MemPlace} (ht : P.underlying t = some (.slice e)) (he : P.underlying e = some (.struct #[f0, f1, f2]))
    (ce : P.cellsOf e = 3) (o0 : f0.offset = 0) (o1 : f1.offset = 1) (o2 : f2.offset = 2) (c0 : P.cellsOf f0.type = 1) (c1 : P.cellsOf f1.type = 1) (c2 : P.cellsOf f2.type = 1)
    (t0 : P.underlying f0.type = some (.int .i64)) (t1 : P.underlying f1.type = some (.int .i64)) (t2 : P.underlying f2.type = some .bool)
    (h : DataW.trod enc P w base spare held fuel t [.slice v n c] = some x) : n ≤ c ∧ c ≤ maxLen ∧ ∃ (D K : Nat → Int) (V : Nat → Bool), OpsB w v n D K V := by
  rcases open_slice ht h with ⟨h0, -⟩ | ⟨a, len, cap, m, nn, Dd, Pl, hcs, hb, hl, hm, hmm, -, hx⟩
  · simp at h0
    obtain ⟨rfl, rfl, rfl⟩ := h0
    exact ⟨Nat.le_refl _, by omega, fun _ => 0, fun _ => 0, fun _ => false, .inl rfl⟩
  · simp at hcs
    obtain ⟨rfl, rfl, rfl⟩ := hcs
    have hlm : n ≤ m := by rw [hmm]; split <;> omega
    have each : ∀ i, i < n → ∃ q : Int × Int × Bool, w.cell? (a.add (i * 3)) = some (.int .i64 q.1) ∧ w.cell? (a.add (i * 3 + 1)) = some (.int .i64 q.2.1) ∧ w.cell? (a.add (i * 3 + 2)) = some (.bool q.2.2) := by
      intro i hi
      obtain ⟨cs', h1, h2⟩ := hx i (by omega)
      rw [ce] at h1
      obtain ⟨_, hlen, hcell⟩ := World.cells?_some h1
      obtain ⟨xs, k, hk, hxy, _, hxl, hf⟩ := DataW.trod_struct he h2
      match xs, hxl, cs', hlen with
      | [y0, y1, y2], _, [v0, v1, v2], _ =>
        have g0 := hf 0 f0 rfl
        have g1 := hf 1 f1 rfl
        have g2 := hf 2 f2 rfl
        simp [o0, o1, o2, c0, c1, c2] at g0 g1 g2
        obtain ⟨n0, e0, -, b0⟩ := DataW.trod_int t0 g0
        obtain ⟨n1, e1, -, b1⟩ := DataW.trod_int t1 g1
        obtain ⟨n2, e2, -⟩ := DataW.trod_bool t2 g2
        simp at e0 e1 e2
        subst e0; subst e1; subst e2
        have k0 := hcell 0 (by omega)
        have k1 := hcell 1 (by omega)
        have k2 := hcell 2 (by omega)
        rw [add_add] at k0 k1 k2
        exact ⟨(n0, n1, n2), by simpa using k0, by simpa using k1, by simpa using k2⟩
    refine ⟨hl, hm, ?_⟩
    obtain ⟨q, hq⟩ := choose_lt each
    by_cases h0 : n = 0
    · exact ⟨fun _ => 0, fun _ => 0, fun _ => false, .inl h0⟩
    · have hs := (hq 0 (by omega)).1
      have hsp := World.cell?_spot hs
      have hlt := World.block_lt_of_cell? w _ hs
      obtain ⟨g, o, sp⟩ := a
      have hsp : sp = none := by simpa [Addr.add] using hsp
      subst hsp
      refine ⟨fun j => (q j).1, fun j => (q j).2.1, fun j => (q j).2.2, .inr ⟨g, o, rfl, by simpa [Addr.add] using hlt, fun j hj => ?_⟩⟩
      obtain ⟨e0, e1, e2⟩ := hq j hj
      rw [Addr.add_lit] at e0 e1 e2
      exact ⟨e0, by rw [Nat.add_assoc]; exact e1, by rw [Nat.add_assoc]; exact e2⟩
end

/-! ### Side by side -/

def IntL (vs : List Value) : Prop := ∀ x ∈ vs, ∃ k, x = Value.int .i64 k

def X3 (q u v : Nat) (k : Nat) : Prop := k = q ∨ k = u ∨ k = v

structure Plays (w0 wr : World) (q u v r room : Nat) (U S : List Value) (p : Nat) (sh : Bool) : Prop where
  lane : LaneAt 54 wr q u v room U S p sh
  ref : RefAtE wr w0.heap.size (X3 q u v) r room U S p sh
  own : w0.heap.size ≤ q ∧ w0.heap.size ≤ u ∧ w0.heap.size ≤ v
  grown : w0.grownBy wr none
  iu : IntL U
  is : IntL S

section
variable {w0 wr w' : World} {q u v r room : Nat} {U S : List Value} {p : Nat} {sh : Bool}
theorem Plays.kept (h : Plays w0 wr q u v r room U S p sh) (hg : wr.grownBy w' none) : Plays w0 w' q u v r room U S p sh :=
  ⟨h.lane.kept hg, h.ref.keptS (P := fun _ => False) (Fr2.none hg) (fun _ _ _ h => h), h.own, gb_trans h.grown hg, h.iu, h.is⟩
theorem Plays.x3 (h : Plays w0 wr q u v r room U S p sh) : ∀ k, X3 q u v k → k < wr.heap.size := fun k hk => by
  have := h.lane.lt
  rcases hk with e | e | e <;> omega
theorem Plays.lens (h : Plays w0 wr q u v r room U S p sh) : U.length ≤ 1000000 ∧ S.length ≤ 1000000 := by
  have := h.lane.small; omega
theorem Plays.sum (h : Plays w0 wr q u v r room U S p sh) : U.length + S.length ≤ 1000000 := by
  have := h.lane.small; omega
theorem Plays.after (h : Plays w0 wr q u v r room U S p sh) {P : Nat → Prop} (hf : Fr2 P wr w') (hP : ∀ k, P k → w0.heap.size ≤ k) : w0.grownBy w' none := Fr2.after h.grown hf hP

theorem LOffer.ints {x : Int} {urgent : Bool} (hU : IntL U) (hS : IntL S) : IntL (LOffer room sh U S (.int .i64 x) urgent).2.1 ∧ IntL (LOffer room sh U S (.int .i64 x) urgent).2.2 := by
  have h1 : IntL (U ++ [Value.int .i64 x]) := fun y hy => (List.mem_append.1 hy).elim (hU y) (fun h => ⟨x, by simpa using h⟩)
  have h2 : IntL (S ++ [Value.int .i64 x]) := fun y hy => (List.mem_append.1 hy).elim (hS y) (fun h => ⟨x, by simpa using h⟩)
  unfold LOffer
  repeat' split
  all_goals (first | exact ⟨hU, hS⟩ | exact ⟨h1, hS⟩ | exact ⟨hU, h2⟩)

theorem LTake.ints (hU : IntL U) (hS : IntL S) : IntL (LTake U S p).2.1 ∧ IntL (LTake U S p).2.2.1 ∧ ∃ k, (LTake U S p).1.getD (.int .i64 0) = .int .i64 k := by
  have ht : ∀ l : List Value, IntL l → IntL l.tail := fun l h x hx => h x (List.mem_of_mem_tail hx)
  have hh : ∀ l : List Value, IntL l → ∃ k, l.head?.getD (.int .i64 0) = Value.int .i64 k := fun l h => by
    cases l with
    | nil => exact ⟨0, rfl⟩
    | cons a l => obtain ⟨k, e⟩ := h a (List.mem_cons_self ..); exact ⟨k, e⟩
  by_cases hp : p < 4
  · cases U with
    | nil => rw [ltake_empty]; exact ⟨hU, ht S hS, hh S hS⟩
    | cons a U => rw [ltake_urgent hp]; obtain ⟨k, e⟩ := hU a (List.mem_cons_self ..); exact ⟨fun x hx => hU x (List.mem_cons_of_mem _ hx), hS, k, e⟩
  · rw [ltake_late hp]; exact ⟨hU, ht S hS, hh S hS⟩
end

theorem RefAtE.widen {w : World} {B : Nat} {X : Nat → Prop} {r room : Nat} {U S : List Value} {p : Nat} {sh : Bool} (h : RefAtE w B X r room U S p sh) (g : Nat) (hg : w.heap.size ≤ g) : RefAtE w B (fun k => X k ∨ k = g) r room U S p sh := by
  obtain ⟨pu, cu, gu, ps, cs, gs, h⟩ := h
  have hr := hlt h.box
  have k0 : ∀ n, n < w.heap.size → ¬ X n → ¬ (X n ∨ n = g) := fun n h1 h2 h3 => h3.elim h2 (fun e => by omega)
  exact ⟨pu, cu, gu, ps, cs, gs, h.box, h.fu.imp id fun ⟨a, b, c, d, e⟩ => ⟨a, b, c, d, k0 gu b.lt e⟩, h.fs.imp id fun ⟨a, b, c, d, e⟩ => ⟨a, b, c, d, k0 gs b.lt e⟩, h.ap, h.at0.1, k0 r hr h.at0.2⟩
theorem RefAtE.narrow {w : World} {B : Nat} {X X' : Nat → Prop} {r room : Nat} {U S : List Value} {p : Nat} {sh : Bool} (h : RefAtE w B X' r room U S p sh) (hX : ∀ k, X k → X' k) : RefAtE w B X r room U S p sh := by
  obtain ⟨pu, cu, gu, ps, cs, gs, h⟩ := h
  exact ⟨pu, cu, gu, ps, cs, gs, h.box, h.fu.imp id fun ⟨a, b, c, d, e⟩ => ⟨a, b, c, d, fun hh => e (hX _ hh)⟩, h.fs.imp id fun ⟨a, b, c, d, e⟩ => ⟨a, b, c, d, fun hh => e (hX _ hh)⟩, h.ap, h.at0.1, fun hh => h.at0.2 (hX _ hh)⟩

theorem s2k {W w' : World} {hx : Nat} {a b : Value} (h : W.cell? ⟨hx, 1, none⟩ = some a ∧ W.cell? ⟨hx, 2, none⟩ = some b) (hl : hx < W.heap.size) (hf : Fr2 (fun k => k ≠ hx) W w') : w'.cell? ⟨hx, 1, none⟩ = some a ∧ w'.cell? ⟨hx, 2, none⟩ = some b := by
  have e := hf.block hx hl (fun h => h rfl)
  exact ⟨(World.cell?_of_block (w := W) e).trans h.1, (World.cell?_of_block (w := W) e).trans h.2⟩
theorem fr_drew {S : Nat → Prop} {a b : World} (h : Fr2 S a b) : Fr2 S a b.drew := ⟨h.os, h.tape, h.output, h.size, h.block⟩

set_option maxRecDepth 100000 in
set_option maxHeartbeats 16000000 in
theorem plays_yes (room : Nat) (po : Option Addr) (m co : Nat) (D K : Nat → Int) (V : Nat → Bool) (w : World) (hr1 : 1 ≤ room) (hr2 : room ≤ 40) (hm : m ≤ co) (hml : m ≤ 100) (hops : OpsB w po m D K V) :
    Calls Try.prog 3 #[.int .i64 room, .slice po m co] w (ValPost (.bool true) w) := by
  have HO := Lib.hid hops; have HN := Lib.hid (New_c_int room hr1 (by omega))
  have d1 : decide ((100 : Int) < m) = false := decide_eq_false (by omega)
  have d1' : decide (100 < m) = false := decide_eq_false (by omega)
  have d2 : decide ((40 : Int) < room) = false := decide_eq_false (by omega)
  have d3 : decide ((room : Int) < 1) = false := decide_eq_false (by omega)
  have d4 : decide ((1024 : Int) < room) = false := decide_eq_false (by omega)
  clear hops
  go_enter Try.func3, Try.ntmps3
  go_wp2_with fail
  refine (anchor_c _).mono ?_
  rintro e w0 ⟨rfl, hg0⟩
  have HG0 := Lib.hid hg0
  clear hg0
  go_wp2_with fail
  refine (HN.out _).mono ?_
  rintro e w1 ⟨q, u, v, rfl, hl, hq, hu, hv, hg⟩
  have hga := World.grownBy_alloc w1 (.cells #[.slice none 0 0, .slice none 0 0, .int .i64 room, .int .i64 0, .bool false] 31) none
  have hpl : Plays w (w1.alloc (.cells #[.slice none 0 0, .slice none 0 0, .int .i64 room, .int .i64 0, .bool false] 31)) q u v w1.heap.size room [] [] 0 false := by
    have h1 := HG0.out.size
    have h2 := hg.size
    have h3 := hl.lt
    exact ⟨hl.kept hga, ⟨none, 0, 0, none, 0, 0, heap_alloc_new w1 _, .inl ⟨rfl, rfl, rfl⟩, .inl ⟨rfl, rfl, rfl⟩, fun h => absurd rfl h, by omega, fun h => by rcases h with e | e | e <;> omega⟩, by omega, gb_trans (gb_trans HG0.out hg) hga, (fun x hx => by cases hx), (fun x hx => by cases hx)⟩
  have HPL0 := Lib.hid hpl
  clear hl hq hu hv hg hga hpl d1 d1' d2 d3 d4 HN HG0
  go_wp2_with fail
  generalize w1.alloc (.cells #[.slice none 0 0, .slice none 0 0, .int .i64 room, .int .i64 0, .bool false] 31) = W1 at *
  generalize w1.heap.size = r at *
  go_loopw [55] (fun i cur => ∃ (j : Nat) (U S : List Value) (p : Nat) (sh : Bool), j ≤ m ∧ i = .int .i64 j ∧ Hid (Plays w cur q u v r room U S p sh)) (fun i _ => m - (intOf i).toNat)
  case atStart => exact ⟨0, [], [], 0, false, by omega, rfl, HPL0⟩
  case round =>
    clear HPL0
    obtain ⟨j, U, S, p, sh, hj, rfl, HPL⟩ := hrel
    by_cases hjm : j < m
    · obtain ⟨go, oo, rfl, hgo, hcell⟩ := HO.out.resolve_left (by omega)
      obtain ⟨y0, y1, y2⟩ := hcell j hjm
      have y0 := HPL.out.grown.cell y0 (by simp); have y1 := HPL.out.grown.cell y1 (by simp); have y2 := HPL.out.grown.cell y2 (by simp)
      clear hcell
      generalize D j = Dj at *
      generalize K j = Kj at *
      generalize V j = Vj at *
      obtain ⟨hx, hxe⟩ : ∃ h, wr.heap.size = h := ⟨_, rfl⟩
      have hbx := heap_alloc_new wr (.cells #[.int .i64 Dj, .int .i64 Kj, .bool Vj] 33)
      have hga := World.grownBy_alloc wr (.cells #[.int .i64 Dj, .int .i64 Kj, .bool Vj] 33) none
      rw [hxe] at hbx
      have hpl := HPL.out.kept hga
      obtain ⟨W, hW⟩ : ∃ W, W = wr.alloc (.cells #[.int .i64 Dj, .int .i64 Kj, .bool Vj] 33) := ⟨_, rfl⟩
      rw [← hW] at hbx hpl
      have HBX := Lib.hid hbx
      obtain ⟨x0, x1, x2, x3⟩ := cells3 HBX.out
      have HQX : Hid (q ≠ hx ∧ u ≠ hx ∧ v ≠ hx ∧ r < hx) := Lib.hid (by
        have h1 := HPL.out.lane.lt
        obtain ⟨_, _, _, _, _, _, h2⟩ := HPL.out.ref
        have h3 := hlt h2.box
        omega)
      have HRX : Hid (RefAtE W w.heap.size (fun k => X3 q u v k ∨ k = hx) r room U S p sh) := Lib.hid ((HPL.out.ref.widen hx (by omega)).keptS (P := fun _ => False) (Fr2.none (hW ▸ hga)) (fun _ _ _ h => h))
      have HP := Lib.hid hpl; have HXE := Lib.hid (fun _ : Unit => hxe); have HLT : Hid (hx < W.heap.size) := Lib.hid (hlt hbx)
      have HB : Hid (w.heap.size ≤ hx) := Lib.hid (by rw [← hxe]; exact HPL.out.grown.size)
      clear hbx hga hpl hxe HPL
      by_cases k1 : Dj = 1
      · have b1 : (Dj == 1) = true := beq_iff_eq.2 k1
        have b2 : (Dj == 2) = false := by rw [k1]; rfl
        have b3 : (Dj == 3) = false := by rw [k1]; rfl
        have b4 : (Dj == 4) = false := by rw [k1]; rfl
        clear k1
        have HRW : Hid (RefAtE W w.heap.size (fun k => X3 q u v k ∨ k = hx) r room U S p sh) := Lib.hid HRX.out
        have HC1 : Hid (∀ w', W.grownBy w' none → Calls Try.prog 8 #[.pointer (some ⟨q, 0, none⟩), .int .i64 Kj, .bool Vj] w' (fun e w5 => e = .returned (.int .i64 (LOffer room sh U S (.int .i64 Kj) Vj).1) ∧ LaneAt 54 w5 q u v room (LOffer room sh U S (.int .i64 Kj) Vj).2.1 (LOffer room sh U S (.int .i64 Kj) Vj).2.2 p sh ∧ RefAtE w5 w.heap.size (fun k => X3 q u v k ∨ k = hx) r room U S p sh ∧ Fr2 (fun k => k ≠ hx) W w5 ∧ w.grownBy w5 none)) := Lib.hid fun w' hg => by
          have h := HP.out.kept hg
          have hq := HQX.out
          refine (Offer_c_int h.lane Kj Vj).mono ?_
          rintro e w5 ⟨he, hl5, hf5, -⟩
          exact ⟨he, hl5, (HRW.out.keptS (P := fun _ => False) (Fr2.none hg) (fun _ _ _ h => h)).keptS hf5 (fun k _ hn h => hn (.inl h)), (Fr2.none hg).trans (hf5.mono (fun k e => by omega)), h.after hf5 (fun k e => by have := h.own; omega)⟩
        have HC2 : Hid (∀ w5 w', LaneAt 54 w5 q u v room (LOffer room sh U S (.int .i64 Kj) Vj).2.1 (LOffer room sh U S (.int .i64 Kj) Vj).2.2 p sh → RefAtE w5 w.heap.size (fun k => X3 q u v k ∨ k = hx) r room U S p sh → Fr2 (fun k => k ≠ hx) W w5 → w.grownBy w5 none → w5.grownBy w' none → Calls Try.prog 9 #[.pointer (some ⟨r, 0, none⟩), .int .i64 Kj, .bool Vj] w' (fun e w6 => e = .returned (.int .i64 (LOffer room sh U S (.int .i64 Kj) Vj).1) ∧ Plays w w6 q u v r room (LOffer room sh U S (.int .i64 Kj) Vj).2.1 (LOffer room sh U S (.int .i64 Kj) Vj).2.2 p sh ∧ Fr2 (fun k => k ≠ hx) W w6)) := Lib.hid fun w5 w' hl5 hr5 hf5 hg5 hg => by
          have hl := hl5.kept hg
          have hrr : RefAtE w' w.heap.size (fun k => X3 q u v k ∨ k = hx) r room U S p sh := hr5.keptS (P := fun _ => False) (Fr2.none hg) (fun _ _ _ h => h)
          have hlt := hl.lt
          have hg6 := gb_trans hg5 hg
          have hi := LOffer.ints (room := room) (sh := sh) (x := Kj) (urgent := Vj) HP.out.iu HP.out.is
          refine (ROffer_c hrr (fun k hk => by
            have h1 := hf5.size; have h2 := hg.size; have h3 := HLT.out
            rcases hk with (e | e | e) | e <;> omega) hg6.size HP.out.lens (by omega) Kj Vj).mono ?_
          rintro e w6 ⟨he, hr6, hf6⟩
          exact ⟨he, ⟨hl.keptS hf6 (fun h => h.2 (.inl (.inl rfl))) (fun h => h.2 (.inl (.inr (.inl rfl)))) (fun h => h.2 (.inl (.inr (.inr rfl)))), hr6.narrow (fun k h => .inl h), HP.out.own, Fr2.after hg6 hf6 (fun k h => h.1), hi.1, hi.2⟩, (hf5.trans (Fr2.none hg)).trans (hf6.mono fun k h e => h.2 (.inr e))⟩
        generalize hcc : (LOffer room sh U S (.int .i64 Kj) Vj).1 = cc at *
        have hccc : (cc != cc) = false := by simp
        have hS : W.cell? ⟨hx, 1, none⟩ = some (.int .i64 Kj) ∧ W.cell? ⟨hx, 2, none⟩ = some (.bool Vj) := ⟨x1, x2⟩
        have HGc : Hid (Fr2 (fun k => k ≠ hx) W W) := Fr2.refl _ _
        clear hcc
        go_wp2_with fail
        rw [← hW, HXE.out ()]
        clear hW y0 y1 y2 x3
        go_region_held3 (fun w' => w'.cell? ⟨hx, 1, none⟩ = some (.int .i64 Kj) ∧ w'.cell? ⟨hx, 2, none⟩ = some (.bool Vj)) (first | with_reducible exact hS | exact s2k hS HLT.out (by repeat (first | with_reducible exact HGc.out | with_reducible refine fr_drew ?_)))
          (first
          | (go_at_call 8; go_must (refine (HC1.out _ (by repeat (first | with_reducible exact gb_refl _ _ | with_reducible refine gb_drew ?_))).mono ?_); rintro e w5 ⟨rfl, hl5, hr5, hf5, hg5⟩; have HL5 := Lib.hid hl5; have HR5 := Lib.hid hr5; have HGc := Lib.hid hf5; have HG5 := Lib.hid hg5; clear hl5 hr5 hf5 hg5)
          | (go_at_call 9; go_must (refine (HC2.out _ _ HL5.out HR5.out HGc.out HG5.out (by repeat (first | with_reducible exact gb_refl _ _ | with_reducible refine gb_drew ?_))).mono ?_); rintro e w6 ⟨rfl, hp6, hf6⟩; have HP6 := Lib.hid hp6; have HGc := Lib.hid hf6; clear hp6 hf6))
        all_goals
          have HP7 := Lib.hid (HP6.out.kept (by repeat (first | with_reducible exact gb_refl _ _ | with_reducible refine gb_drew ?_) : w6.grownBy w6.drew none))
          clear HC1 HC2 x0 x1 x2 hS
          obtain ⟨na, hna⟩ : ∃ n, ((LOffer room sh U S (Value.int .i64 Kj) Vj).2.1).length = n := ⟨_, rfl⟩
          obtain ⟨nb, hnb⟩ : ∃ n, ((LOffer room sh U S (Value.int .i64 Kj) Vj).2.2).length = n := ⟨_, rfl⟩
          obtain ⟨pu9, cu9, gu9, ps9, cs9, gs9, hr9⟩ := HP6.out.ref
          obtain ⟨t0, t1, t2, t3, t4, t5⟩ := cells5 hr9.box
          have hlen9 := Len_c_int HP6.out.lane
          rw [hna, hnb] at hlen9
          rw [hna] at t0
          rw [hnb] at t1
          have HLEN9 := Lib.hid hlen9
          have n1 : ((na : Int) != (na : Int)) = false := by simp
          have n2 : ((nb : Int) != (nb : Int)) = false := by simp
          clear hna hnb hr9 t5 hlen9 t2 t3 t4
          go_wp2_with fail
          refine HLEN9.out.mono ?_
          rintro e w9 ⟨rfl, nq, rfl⟩
          go_wp2_with fail
          go_roundw
          case rel => exact ⟨j + 1, (LOffer room sh U S (Value.int .i64 Kj) Vj).2.1, (LOffer room sh U S (Value.int .i64 Kj) Vj).2.2, p, sh, by omega, by go_num, Lib.hid (HP6.out.kept (gb_drewN (gb_refl _ _) _))⟩
          case measure => simp [intOf]; omega
      by_cases k2 : Dj = 2
      · have b1 : (Dj == 1) = false := by rw [k2]; rfl
        have b2 : (Dj == 2) = true := beq_iff_eq.2 k2
        have b3 : (Dj == 3) = false := by rw [k2]; rfl
        have b4 : (Dj == 4) = false := by rw [k2]; rfl
        clear k1 k2
        go_wp2_with fail
        rw [← hW, HXE.out ()]
        clear hW y0 y1 y2
        refine (Take_c_int HP.out.lane).mono ?_
        rintro e w5 ⟨rfl, hl5, hf5, -⟩
        have hg5 := HP.out.after hf5 (fun k e => by have := HP.out.own; omega)
        have hr5 := HP.out.ref.keptS hf5 (fun k _ hn => hn)
        obtain ⟨hi1, hi2, kk, hkk⟩ := LTake.ints (p := p) HP.out.iu HP.out.is
        have HR5 := Lib.hid (RTake_c hr5 HP.out.lens HP.out.lane.good HP.out.iu HP.out.is)
        have HC : Hid (∀ w6, RefAtE w6 w.heap.size (X3 q u v) r room (LTake U S p).2.1 (LTake U S p).2.2.1 (LTake U S p).2.2.2 sh → Fr2 (Mine w.heap.size (X3 q u v)) w5 w6 → Plays w w6 q u v r room (LTake U S p).2.1 (LTake U S p).2.2.1 (LTake U S p).2.2.2 sh) := Lib.hid fun w6 hr6 hf6 =>
          ⟨hl5.keptS hf6 (fun h => h.2 (.inl rfl)) (fun h => h.2 (.inr (.inl rfl))) (fun h => h.2 (.inr (.inr rfl))), hr6, HP.out.own, Fr2.after hg5 hf6 (fun k h => h.1), hi1, hi2⟩
        obtain ⟨bb, hbb⟩ : ∃ b, (LTake U S p).1.isSome = b := ⟨_, rfl⟩
        have HKK := Lib.hid hkk; have HBB := Lib.hid hbb
        have n3 : (kk != kk) = false := by simp
        have n4 : (bb != bb) = false := by simp
        rw [hkk, hbb]
        clear hl5 hf5 hg5 hr5 hi1 hi2 hkk hbb x0 x1 x2 x3
        go_wp2_with fail
        refine HR5.out.mono ?_
        rintro e w6 ⟨rfl, hr6, hf6⟩
        rw [HKK.out, HBB.out]
        have HP6 := Lib.hid (HC.out w6 hr6 hf6)
        clear hr6 hf6 HC HR5
        obtain ⟨na, hna⟩ : ∃ n, ((LTake U S p).2.1).length = n := ⟨_, rfl⟩
        obtain ⟨nb, hnb⟩ : ∃ n, ((LTake U S p).2.2.1).length = n := ⟨_, rfl⟩
        obtain ⟨pu9, cu9, gu9, ps9, cs9, gs9, hr9⟩ := HP6.out.ref
        obtain ⟨t0, t1, t2, t3, t4, t5⟩ := cells5 hr9.box
        have hlen9 := Len_c_int HP6.out.lane
        rw [hna, hnb] at hlen9
        rw [hna] at t0
        rw [hnb] at t1
        have HLEN9 := Lib.hid hlen9
        have n1 : ((na : Int) != (na : Int)) = false := by simp
        have n2 : ((nb : Int) != (nb : Int)) = false := by simp
        clear hna hnb hr9 t5 hlen9 t2 t3 t4
        go_wp2_with fail
        refine HLEN9.out.mono ?_
        rintro e w9 ⟨rfl, nq, rfl⟩
        go_wp2_with fail
        go_roundw
        case rel => exact ⟨j + 1, (LTake U S p).2.1, (LTake U S p).2.2.1, (LTake U S p).2.2.2, sh, by omega, by go_num, Lib.hid (HP6.out.kept (gb_drewN (gb_refl _ _) _))⟩
        case measure => simp [intOf]; omega
      by_cases k3 : Dj = 3
      · have b1 : (Dj == 1) = false := by rw [k3]; rfl
        have b2 : (Dj == 2) = false := by rw [k3]; rfl
        have b3 : (Dj == 3) = true := beq_iff_eq.2 k3
        have b4 : (Dj == 4) = false := by rw [k3]; rfl
        clear k1 k2 k3
        go_wp2_with fail
        rw [← hW, HXE.out ()]
        clear hW y0 y1 y2
        refine (Shut_c_int HP.out.lane).mono ?_
        rintro e w5 ⟨rfl, hl5, hf5, -⟩
        have hg5 := HP.out.after hf5 (fun k e => by have := HP.out.own; omega)
        obtain ⟨pu5, cu5, gu5, ps5, cs5, gs5, hr5⟩ := HP.out.ref.keptS hf5 (fun k _ hn => hn)
        obtain ⟨-, -, -, -, v4, v5⟩ := cells5 hr5.box
        have v6 := v5 4
        have HP6 : Hid (Plays w (w5.setCell ⟨r, 4, none⟩ (.bool true)) q u v r room U S p true) := Lib.hid (by
          have hf : Fr2 (fun k => k = r) w5 (w5.setCell ⟨r, 4, none⟩ (.bool true)) := Fr2.setCell (S := fun k => k = r) (Fr2.refl _ _) rfl _
          have hn := hr5.at0.2
          exact ⟨hl5.keptS hf (fun e => hn (.inl e.symm)) (fun e => hn (.inr (.inl e.symm))) (fun e => hn (.inr (.inr e.symm))), ⟨pu5, cu5, gu5, ps5, cs5, gs5, set_cells hr5.box, hr5.fu.keptS hf (fun _ _ a _ => a), hr5.fs.keptS hf (fun _ _ a _ => a), hr5.ap, hr5.at0⟩, HP.out.own, Fr2.after hg5 hf (fun k e => e ▸ hr5.at0.1), HP.out.iu, HP.out.is⟩)
        have HR5 := Lib.hid hr5
        clear hl5 hf5 hg5 hr5 v5 x0 x1 x2 x3
        obtain ⟨na, hna⟩ : ∃ n, (U).length = n := ⟨_, rfl⟩
        obtain ⟨nb, hnb⟩ : ∃ n, (S).length = n := ⟨_, rfl⟩
        obtain ⟨pu9, cu9, gu9, ps9, cs9, gs9, hr9⟩ := HP6.out.ref
        obtain ⟨t0, t1, t2, t3, t4, t5⟩ := cells5 hr9.box
        have hlen9 := Len_c_int HP6.out.lane
        rw [hna, hnb] at hlen9
        rw [hna] at t0
        rw [hnb] at t1
        have HLEN9 := Lib.hid hlen9
        have n1 : ((na : Int) != (na : Int)) = false := by simp
        have n2 : ((nb : Int) != (nb : Int)) = false := by simp
        clear hna hnb hr9 t5 hlen9 t2 t3 t4
        go_wp2_with fail
        refine HLEN9.out.mono ?_
        rintro e w9 ⟨rfl, nq, rfl⟩
        go_wp2_with fail
        go_roundw
        case rel => exact ⟨j + 1, U, S, p, true, by omega, by go_num, Lib.hid (HP6.out.kept (gb_drewN (gb_refl _ _) _))⟩
        case measure => simp [intOf]; omega
      by_cases k4 : Dj = 4
      · have b1 : (Dj == 1) = false := by rw [k4]; rfl
        have b2 : (Dj == 2) = false := by rw [k4]; rfl
        have b3 : (Dj == 3) = false := by rw [k4]; rfl
        have b4 : (Dj == 4) = true := beq_iff_eq.2 k4
        clear k1 k2 k3 k4
        obtain ⟨L, hL⟩ := drains_all _ U S p (Nat.le_refl _) HP.out.lane.good
        have hli : IntL L := fun x hx => (Drains.mem hL x hx).elim (HP.out.iu x) (HP.out.is x)
        have hll := Drains.len hL HP.out.lane.good
        have HC := Lib.hid (Drain_c_int HP.out.lane L hL hli)
        obtain ⟨ll, hle⟩ : ∃ n, L.length = n := ⟨_, rfl⟩
        have HLE := Lib.hid hle; have HLI := Lib.hid hli; have HDR := Lib.hid hL; have HLS : Hid (ll ≤ 2000000) := Lib.hid (by have := HP.out.lens; omega)
        clear hL hli hll hle
        go_wp2_with fail
        rw [← hW, HXE.out ()]
        clear hW y0 y1 y2
        refine HC.out.mono ?_
        rintro e w5 ⟨p5, c5, rfl, ho5, hl5, hf5⟩
        obtain ⟨p6, c6, he, hv, -, -⟩ := ho5.is
        injection he with e1 e2 e3
        subst e1; subst e3
        have hg5 := HP.out.after hf5 (fun k e => by have := HP.out.own; omega)
        obtain ⟨gL, hgW, hgL⟩ : ∃ gL, W.heap.size ≤ gL ∧ (L ≠ [] → ∀ a, p5 = some a → a.block = gL) := by
          rcases ho5.2 with ⟨-, h⟩ | ⟨g, cap, cur, e, hb, hg, -⟩
          · exact ⟨W.heap.size, Nat.le_refl _, fun h0 => absurd (List.eq_nil_of_length_eq_zero h) h0⟩
          · exact ⟨g, hb, fun _ a ha => by injection e with e; rw [ha] at e; injection e with e; subst e; rfl⟩
        have hr5 := (HP.out.ref.widen gL hgW).keptS hf5 (fun k _ hn h => hn (.inl h))
        have HV := Lib.hid hv; have HPB := Lib.hid hgL; have HL5 := Lib.hid hl5; have HR5 := Lib.hid hr5; have HG5 := Lib.hid hg5
        rw [HLE.out]
        have hl2 : ll ≤ 2000000 := HLS.out
        clear ho5 hv hl5 hf5 hg5 hr5 hgL hgW e2 x0 x1 x2 x3 HC
        go_wp2_with fail
        go_loopw [108] (fun i cur => ∃ (i0 : Nat) (A R U1 S1 : List Value) (p1 : Nat), i0 ≤ ll ∧ i = .int .i64 i0 ∧ Hid (L = A ++ R ∧ A.length = i0) ∧ Hid (Drains U1 S1 p1 R) ∧ Hid (RefAtE cur w.heap.size (fun k => X3 q u v k ∨ k = gL) r room U1 S1 p1 sh ∧ LGood S1 p1 ∧ IntL U1 ∧ IntL S1 ∧ U1.length + S1.length ≤ 1000000) ∧ Hid (Fr2 (Mine w.heap.size (fun k => X3 q u v k ∨ k = gL)) w5 cur) ∧ Hid (VAt cur p5 L)) (fun i _ => ll - (intOf i).toNat)
        case atStart => exact ⟨0, [], L, U, S, p, by omega, rfl, Lib.hid ⟨rfl, rfl⟩, HDR, Lib.hid ⟨HR5.out, HP.out.lane.good, HP.out.iu, HP.out.is, HP.out.sum⟩, Fr2.refl _ _, HV⟩
        case round =>
          clear HR5 HV
          obtain ⟨i0, A, R, U1, S1, p1, hi0, rfl, HAR, HD1, HR1, HF1, HV1⟩ := hrel
          by_cases hilt : i0 < ll
          · cases R with
            | nil => exact absurd HAR.out.1 (fun e => by have h1 := HLE.out; have h2 := HAR.out.2; rw [e] at h1; simp at h1; omega)
            | cons y R =>
              obtain ⟨k, rfl⟩ := HLI.out y (by rw [HAR.out.1]; exact List.mem_append_right _ (List.mem_cons_self ..))
              have hL0 : L ≠ [] := fun e => by have h1 := HLE.out; rw [e] at h1; simp at h1; omega
              obtain ⟨g, off, rfl, hgl, hc⟩ := HV1.out.resolve_left hL0
              have hck := hc i0 (.int .i64 k) (by rw [HAR.out.1, List.getElem?_append_right (Nat.le_of_eq HAR.out.2), HAR.out.2]; simp)
              obtain ⟨hr1, hgd, hiu, his, hlu⟩ := HR1.out
              have HT := Lib.hid (RTake_c hr1 ⟨by omega, by omega⟩ hgd hiu his)
              have hd := HD1.out
              obtain ⟨hs1, hd2⟩ : (LTake U1 S1 p1).1 = some (Value.int .i64 k) ∧ Drains (LTake U1 S1 p1).2.1 (LTake U1 S1 p1).2.2.1 (LTake U1 S1 p1).2.2.2 R := by
                cases hd with
                | some a b => exact ⟨a, b⟩
              have hlens := LTake.len hs1
              have hints := LTake.ints (p := p1) hiu his
              have HS1 := Lib.hid hs1; have HD2 := Lib.hid hd2; have HGD := Lib.hid (And.intro (LTake.good (U := U1) hgd) (And.intro hints.1 (And.intro hints.2.1 (show (LTake U1 S1 p1).2.1.length + (LTake U1 S1 p1).2.2.1.length ≤ 1000000 by omega))))
              have n3 : (k != k) = false := by simp
              clear hc hgl hr1 hgd hiu his hlu hd hs1 hd2 hlens hints
              go_wp2_with fail
              refine HT.out.mono ?_
              rintro e w6 ⟨rfl, hr6, hf6⟩
              rw [HS1.out]
              have HR6 := Lib.hid hr6; have HF6 := Lib.hid (HF1.out.trans hf6)
              have HV6 : Hid (VAt w6 (some ⟨g, off, none⟩) L) := Lib.hid (HV1.out.keptS hf6 (fun h0 a ha hm => by
                exact hm.2 (.inr (HPB.out h0 a ha))))
              clear hr6 hf6
              go_wp2_with fail
              go_roundw
              case rel => exact ⟨i0 + 1, A ++ [Value.int .i64 k], R, _, _, _, by omega, by go_num, Lib.hid ⟨by rw [HAR.out.1]; simp, by simp [HAR.out.2]⟩, HD2, Lib.hid ⟨HR6.out, HGD.out⟩, HF6, HV6⟩
              case measure => simp [intOf]; omega
          · obtain rfl : i0 = ll := by omega
            have hR0 : R = [] := List.eq_nil_of_length_eq_zero (by
              have h1 := HLE.out
              have h2 := HAR.out
              rw [h2.1] at h1
              simp at h1
              omega)
            subst hR0
            obtain ⟨hr1, hgd, hiu, his, hlu⟩ := HR1.out
            have hn1 : (LTake U1 S1 p1).1 = none := by
              have hd := HD1.out
              cases hd with
              | none a => exact a
            obtain ⟨-, -, hq1⟩ := LTake.none_good hgd hn1
            have HT := Lib.hid (RTake_c hr1 ⟨by omega, by omega⟩ hgd hiu his)
            have HQ1 := Lib.hid hq1
            clear hr1 hgd hiu his hlu hn1 hq1
            go_wp2_with fail
            refine HT.out.mono ?_
            rintro e w6 ⟨rfl, hr6, hf6⟩
            rw [HQ1.out] at hr6 ⊢
            have HP6 : Hid (Plays w w6 q u v r room [] [] 0 sh) := Lib.hid (by
              have hf := HF1.out.trans hf6
              exact ⟨HL5.out.keptS hf (fun h => h.2 (.inl (.inl rfl))) (fun h => h.2 (.inl (.inr (.inl rfl)))) (fun h => h.2 (.inl (.inr (.inr rfl)))), hr6.narrow (fun k h => .inl h), HP.out.own, Fr2.after HG5.out hf (fun k h => h.1), (fun x hx => by cases hx), (fun x hx => by cases hx)⟩)
            clear hr6 hf6
            obtain ⟨pu9, cu9, gu9, ps9, cs9, gs9, hr9⟩ := HP6.out.ref
            obtain ⟨t0, t1, t2, t3, t4, t5⟩ := cells5 hr9.box
            have hlen9 := Len_c_int HP6.out.lane
            simp only [List.length_nil] at t0 t1 hlen9
            have HLEN9 := Lib.hid hlen9
            have n1 : (((0 : Nat) : Int) != ((0 : Nat) : Int)) = false := by simp
            have n2 : ((0 : Int) != (0 : Int)) = false := by simp
            clear hr9 t5 hlen9 t2 t3 t4
            go_wp2_with fail
            refine HLEN9.out.mono ?_
            rintro e w9 ⟨rfl, nq, rfl⟩
            go_wp2_with fail
            go_roundw
            case rel => exact ⟨j + 1, [], [], 0, sh, by omega, by go_num, Lib.hid (HP6.out.kept (gb_drewN (gb_refl _ _) _))⟩
            case measure => simp [intOf]; omega
      have b1 : (Dj == 1) = false := beq_eq_false_iff_ne.2 k1
      have b2 : (Dj == 2) = false := beq_eq_false_iff_ne.2 k2
      have b3 : (Dj == 3) = false := beq_eq_false_iff_ne.2 k3
      have b4 : (Dj == 4) = false := beq_eq_false_iff_ne.2 k4
      clear k1 k2 k3 k4
      clear x1 x2 x3
      obtain ⟨na, hna⟩ : ∃ n, (U).length = n := ⟨_, rfl⟩
      obtain ⟨nb, hnb⟩ : ∃ n, (S).length = n := ⟨_, rfl⟩
      obtain ⟨pu9, cu9, gu9, ps9, cs9, gs9, hr9⟩ := HP.out.ref
      obtain ⟨t0, t1, t2, t3, t4, t5⟩ := cells5 hr9.box
      have hlen9 := Len_c_int HP.out.lane
      rw [hna, hnb] at hlen9
      rw [hna] at t0
      rw [hnb] at t1
      have HLEN9 := Lib.hid hlen9
      have n1 : ((na : Int) != (na : Int)) = false := by simp
      have n2 : ((nb : Int) != (nb : Int)) = false := by simp
      clear hna hnb hr9 t5 hlen9 t2 t3 t4
      go_wp2_with fail
      rw [← hW]
      clear hW y0 y1 y2
      refine HLEN9.out.mono ?_
      rintro e w9 ⟨rfl, nq, rfl⟩
      go_wp2_with fail
      go_roundw
      case rel => exact ⟨j + 1, U, S, p, sh, by omega, by go_num, Lib.hid (HP.out.kept (gb_drewN (gb_refl _ _) _))⟩
      case measure => simp [intOf]; omega
    · obtain rfl : j = m := by omega
      have HFIN := Lib.hid HPL.out.grown
      go_wp2_with fail
      go_ret
      exact ⟨rfl, HFIN.out⟩
end Go.Proofs.Ytponbjocaackcaa
