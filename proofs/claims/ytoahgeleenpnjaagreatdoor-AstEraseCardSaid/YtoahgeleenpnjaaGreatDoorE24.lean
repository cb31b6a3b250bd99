/- The form of a definition gives what its reading asks. -/
import Derived.Test.YtoahgeleenpnjaaGreatDoorE22
import Derived.Test.YtoahgeleenpnjaaGreatDoorE23
import Derived.Test.YtoahgeleenpnjaaGreatDoorE4
set_option linter.unusedVariables false
set_option linter.unusedSimpArgs false
namespace Go.Proofs.YtoahgeleenpnjaaGreatDoor

theorem we_kind {T : List Tok} {k : Nat} {l : List Tr} (h : WE T (.nd k l)) : 7 ≤ k := by
  simp only [WE] at h
  cases h.1 <;> omega
theorem ok_body {T : List Tok} {u : Tr} (h1 : isN u = true) (h2 : WE T u) : OkK T u ∧ ∀ l', u ≠ .nd 4 l' := by
  cases u with
  | lf i => simp [isN] at h1
  | nd k l =>
    have := we_kind h2
    exact ⟨⟨fun e => by omega, fun e => by omega⟩, fun l' e => by injection e with e; omega⟩
theorem ok_typed {T : List Tok} {l : List Tr} (h : ShT T l) : ∀ t ∈ l, OkK T t ∧ ∀ l', t ≠ .nd 4 l' := by
  cases h with
  | mk c b cl h1 h2 h3 =>
    intro t ht
    rcases List.mem_cons.1 ht with rfl | ht
    · exact ⟨trivial, fun l' e => by cases e⟩
    rcases List.mem_cons.1 ht with rfl | ht
    · exact ⟨⟨fun _ => ⟨b, rfl⟩, fun e => by omega⟩, fun l' e => by injection e with e; omega⟩
    cases h3 with
    | no => simp at ht
    | yes i j e h4 h5 =>
      simp at ht; subst ht
      exact ⟨⟨fun e => by omega, fun _ => ⟨i, e, j, rfl, h4, h5⟩⟩, fun l' e => by injection e with e; omega⟩
theorem ok_par {T : List Tok} {p : Tr} (h : ShP T p) : OkK T p ∧ ∀ l', p = .nd 4 l' → ∀ t ∈ l', OkK T t := by
  cases h with
  | mk n l h1 h2 =>
    refine ⟨⟨fun e => by omega, fun e => by omega⟩, fun l' e t ht => ?_⟩
    injection e with _ e
    subst e
    rcases List.mem_cons.1 ht with rfl | ht
    · exact trivial
    · exact (ok_typed h2 t ht).1
theorem ok_pars {T : List Tok} {l : List Tr} (h : ShPs T l) : ∀ t ∈ l, OkK T t ∧ ∀ l', t = .nd 4 l' → ∀ t ∈ l', OkK T t := by
  induction h with
  | one p hp => intro t ht; simp at ht; subst ht; exact ok_par hp
  | more l c p _ hc hp ih =>
    intro t ht
    rcases List.mem_append.1 ht with ht | ht
    · rcases List.mem_append.1 ht with ht | ht
      · exact ih t ht
      · simp at ht; subst ht; exact ⟨trivial, fun l' e => by cases e⟩
    · simp at ht; subst ht; exact ok_par hp
/-- All that def asks of its node's kids. -/
theorem shd_ok {T : List Tok} {l : List Tr} (h : ShD T (.nd 3 l)) : (∀ t ∈ l, OkK T t) ∧ (∀ l', Tr.nd 4 l' ∈ l → ∀ t ∈ l', OkK T t) ∧ (∃ i0, l[0]? = some (.lf i0)) ∧ (∃ u, l[l.length - 2]? = some u ∧ isN u = true ∧ WE T u) ∧ 2 ≤ l.length := by
  cases h with
  | mk pb f n o ps c tl q body m hpb hft hfk hnk hok hps hck htl hqk hb1 hb2 hmk =>
    have key : ∀ t ∈ pb ++ [Tr.lf f, .lf n, .lf o] ++ ps ++ [.lf c] ++ tl ++ [.lf q] ++ [body] ++ [.lf m], OkK T t ∧ ∀ l', t = .nd 4 l' → ∀ t ∈ l', OkK T t := fun t ht => by
      simp only [List.mem_append] at ht
      rcases ht with ((((((ht | ht) | ht) | ht) | ht) | ht) | ht) | ht
      · rcases hpb with rfl | ⟨p, rfl, -⟩
        · simp at ht
        · simp at ht; subst ht; exact ⟨trivial, fun l' e => by cases e⟩
      · simp at ht; rcases ht with rfl | rfl | rfl <;> exact ⟨trivial, fun l' e => by cases e⟩
      · rcases hps with rfl | hps
        · simp at ht
        · exact ok_pars hps t ht
      · simp at ht; subst ht; exact ⟨trivial, fun l' e => by cases e⟩
      · have h := ok_typed htl t ht
        exact ⟨h.1, fun l' e => absurd e (h.2 l')⟩
      · simp at ht; subst ht; exact ⟨trivial, fun l' e => by cases e⟩
      · simp at ht; subst ht
        have h := ok_body hb1 hb2
        exact ⟨h.1, fun l' e => absurd e (h.2 l')⟩
      · simp at ht; subst ht; exact ⟨trivial, fun l' e => by cases e⟩
    refine ⟨fun t ht => (key t ht).1, fun l' hl => (key _ hl).2 l' rfl, ?_, ⟨body, ?_, hb1, hb2⟩, by simp; omega⟩
    · rcases hpb with rfl | ⟨p, rfl, -⟩
      · exact ⟨f, by simp⟩
      · exact ⟨p, by simp⟩
    · have e : pb ++ [Tr.lf f, .lf n, .lf o] ++ ps ++ [.lf c] ++ tl ++ [.lf q] ++ [body] ++ [.lf m] = (pb ++ [Tr.lf f, .lf n, .lf o] ++ ps ++ [.lf c] ++ tl ++ [.lf q]) ++ [body, .lf m] := by simp
      rw [e]
      generalize pb ++ [Tr.lf f, .lf n, .lf o] ++ ps ++ [.lf c] ++ tl ++ [.lf q] = A
      rw [List.length_append, List.getElem?_append_right (by simp)]
      simp
end Go.Proofs.YtoahgeleenpnjaaGreatDoor
namespace Go.Proofs.YtoahgeleenpnjaaGreatDoor
open Go.RowKit

theorem gat_sameG {S F : Nat → Prop} {s : Nat} {w w' : World} {p : Option Addr} {rows : List (List Value)} {α : Type} {l : List α} (hr : rows.length = l.length) (h : GAt s w p rows) (hF : l ≠ [] → ∃ a, p = some a ∧ F a.block) (hg : Fr2 S w w') (hS : ∀ k, F k → ¬ S k) : GAt s w' p rows :=
  h.keptS hg (fun h0 a ha => by
    obtain ⟨b, hb, hFb⟩ := hF (fun e => h0 (by rw [e] at hr; exact List.eq_nil_of_length_eq_zero hr))
    rw [ha] at hb; cases hb; exact hS _ hFb)
theorem Ps_bound {F : Nat → Prop} {w : World} : ∀ {l : List Fx} {r : List (List Value)}, PsAt F w l r → PsAt (fun k => F k ∧ k < w.heap.size) w l r
  | [], r, h => by simp only [PsAt] at h ⊢; exact h
  | x :: l, r, h => by
    simp only [PsAt] at h ⊢
    obtain ⟨q, r', h1, h2, h3⟩ := h
    exact ⟨q, r', h1, PAt.bound h2, Ps_bound h3⟩
theorem DAt.same {F S : Nat → Prop} {w w' : World} {d : Dx} {q : List Value} (hg : Fr2 S w w') (hS : ∀ k, F k → ¬ S k) (h : DAt F w d q) : DAt F w' d q := by
  obtain ⟨pp, np, cp, prow, pc, nc, cc, qb, h1, h2, h3, h4, h5, h6, h7⟩ := h
  exact ⟨pp, np, cp, prow, pc, nc, cc, qb, h1, PAt.same hg hS h2, EAt.same hg hS h3, h4, gat_sameG (Ps_len h6) h5 h7 hg hS, Ps_same hg hS h6, h7⟩
theorem DAt.mono {F F' : Nat → Prop} {w : World} {d : Dx} {q : List Value} (hF : ∀ k, F k → F' k) (h : DAt F w d q) : DAt F' w d q := by
  obtain ⟨pp, np, cp, prow, pc, nc, cc, qb, h1, h2, h3, h4, h5, h6, h7⟩ := h
  exact ⟨pp, np, cp, prow, pc, nc, cc, qb, h1, PAt.mono hF h2, EAt.mono hF h3, h4, h5, Ps_mono hF h6, fun h0 => by obtain ⟨a, ha, h8⟩ := h7 h0; exact ⟨a, ha, hF _ h8⟩⟩
theorem DAt.kept {F : Nat → Prop} {w w' : World} {d : Dx} {q : List Value} (h : DAt F w d q) (hg : w.grownBy w' none) : DAt F w' d q := DAt.same (S := fun _ => False) (Fr2.none hg) (fun _ _ h => h) h
theorem DAt.bound {F : Nat → Prop} {w : World} {d : Dx} {q : List Value} (h : DAt F w d q) : DAt (fun k => F k ∧ k < w.heap.size) w d q := by
  obtain ⟨pp, np, cp, prow, pc, nc, cc, qb, h1, h2, h3, h4, h5, h6, h7⟩ := h
  refine ⟨pp, np, cp, prow, pc, nc, cc, qb, h1, PAt.bound h2, EAt.bound h3, h4, h5, Ps_bound h6, fun h0 => ?_⟩
  obtain ⟨a, ha, h8⟩ := h7 h0
  have hr := Ps_len h6
  exact ⟨a, ha, h8, GAt.blk h5 (fun e => by rw [e] at hr; exact h0 (List.eq_nil_of_length_eq_zero hr.symm)) a ha⟩
theorem DAt.fift {F : Nat → Prop} {w : World} {d : Dx} {q : List Value} (h : DAt F w d q) : q.length = 15 ∧ (∀ u ∈ q, u.oneCell' = true) ∧ ∃ a0 a1 a2 a3 a4 a5 a6 a7 a8 a9 a10 a11 a12 a13 a14, q = [a0, a1, a2, a3, a4, a5, a6, a7, a8, a9, a10, a11, a12, a13, a14] := by
  obtain ⟨pp, np, cp, prow, pc, nc, cc, qb, rfl, h2, h3, -⟩ := h
  obtain ⟨hb1, hb2⟩ := h3.one
  obtain ⟨e0, e1, e2, e3, e4, e5, e6, e7, rfl⟩ := h3.eight
  refine ⟨rfl, fun u hu => ?_, _, _, _, _, _, _, _, _, _, _, _, _, _, _, _, rfl⟩
  rcases List.mem_append.1 hu with hu | hu
  · rcases List.mem_append.1 hu with hu | hu
    · simp at hu; rcases hu with rfl | rfl | rfl | rfl | rfl <;> rfl
    · exact hb2 u hu
  · simp at hu; rcases hu with rfl | rfl <;> rfl

/-- Rows of fifteen cells read as definitions. -/
def DsAt (F : Nat → Prop) (w : World) : List Dx → List (List Value) → Prop
  | [], r => r = []
  | x :: l, r => ∃ q r', r = q :: r' ∧ DAt F w x q ∧ DsAt F w l r'
theorem Ds_len {F : Nat → Prop} {w : World} : ∀ {l : List Dx} {r : List (List Value)}, DsAt F w l r → r.length = l.length
  | [], r, h => by simp only [DsAt] at h; rw [h]; rfl
  | x :: l, r, h => by
    simp only [DsAt] at h
    obtain ⟨q, r', rfl, -, h2⟩ := h
    rw [List.length_cons, Ds_len h2]; rfl
theorem Ds_snoc {F : Nat → Prop} {w : World} {x : Dx} {q : List Value} (hx : DAt F w x q) : ∀ {l : List Dx} {r : List (List Value)}, DsAt F w l r → DsAt F w (l ++ [x]) (r ++ [q])
  | [], r, h => by simp only [DsAt] at h; subst h; simp only [List.nil_append, DsAt]; exact ⟨q, [], rfl, hx, rfl⟩
  | y :: l, r, h => by
    simp only [DsAt] at h
    obtain ⟨q', r', rfl, h1, h2⟩ := h
    simp only [List.cons_append, DsAt]
    exact ⟨q', _, rfl, h1, Ds_snoc hx h2⟩
theorem Ds_same {F S : Nat → Prop} {w w' : World} (hg : Fr2 S w w') (hS : ∀ k, F k → ¬ S k) : ∀ {l : List Dx} {r : List (List Value)}, DsAt F w l r → DsAt F w' l r
  | [], r, h => by simp only [DsAt] at h ⊢; exact h
  | x :: l, r, h => by
    simp only [DsAt] at h ⊢
    obtain ⟨q, r', h1, h2, h3⟩ := h
    exact ⟨q, r', h1, DAt.same hg hS h2, Ds_same hg hS h3⟩
theorem Ds_mono {F F' : Nat → Prop} {w : World} (hF : ∀ k, F k → F' k) : ∀ {l : List Dx} {r : List (List Value)}, DsAt F w l r → DsAt F' w l r
  | [], r, h => by simp only [DsAt] at h ⊢; exact h
  | x :: l, r, h => by
    simp only [DsAt] at h ⊢
    obtain ⟨q, r', h1, h2, h3⟩ := h
    exact ⟨q, r', h1, DAt.mono hF h2, Ds_mono hF h3⟩
theorem Ds_kept {F : Nat → Prop} {w w' : World} {l : List Dx} {r : List (List Value)} (h : DsAt F w l r) (hg : w.grownBy w' none) : DsAt F w' l r := Ds_same (S := fun _ => False) (Fr2.none hg) (fun _ _ h => h) h
theorem Ds_bound {F : Nat → Prop} {w : World} : ∀ {l : List Dx} {r : List (List Value)}, DsAt F w l r → DsAt (fun k => F k ∧ k < w.heap.size) w l r
  | [], r, h => by simp only [DsAt] at h ⊢; exact h
  | x :: l, r, h => by
    simp only [DsAt] at h ⊢
    obtain ⟨q, r', h1, h2, h3⟩ := h
    exact ⟨q, r', h1, DAt.bound h2, Ds_bound h3⟩
theorem Ds_get {F : Nat → Prop} {w : World} : ∀ {l : List Dx} {r : List (List Value)} {j : Nat} {x : Dx}, DsAt F w l r → l[j]? = some x → ∃ q, r[j]? = some q ∧ DAt F w x q
  | [], r, j, x, h, hj => by simp at hj
  | y :: l, r, j, x, h, hj => by
    simp only [DsAt] at h
    obtain ⟨q, r', rfl, h1, h2⟩ := h
    match j, hj with
    | 0, hj => simp at hj; subst hj; exact ⟨q, rfl, h1⟩
    | j + 1, hj =>
      obtain ⟨q2, h3, h4⟩ := Ds_get h2 (show l[j]? = some x by simpa using hj)
      exact ⟨q2, by simpa using h3, h4⟩
theorem Ps_get {F : Nat → Prop} {w : World} : ∀ {l : List Fx} {r : List (List Value)} {j : Nat} {x : Fx}, PsAt F w l r → l[j]? = some x → ∃ q, r[j]? = some q ∧ PAt F w x q
  | [], r, j, x, h, hj => by simp at hj
  | y :: l, r, j, x, h, hj => by
    simp only [PsAt] at h
    obtain ⟨q, r', rfl, h1, h2⟩ := h
    match j, hj with
    | 0, hj => simp at hj; subst hj; exact ⟨q, rfl, h1⟩
    | j + 1, hj =>
      obtain ⟨q2, h3, h4⟩ := Ps_get h2 (show l[j]? = some x by simpa using hj)
      exact ⟨q2, by simpa using h3, h4⟩

def impV (x : List UInt8 × Nat) : List Value := [strV x.1, .int .i64 (x.2 : Int)]
/-- Two cells read as a program. -/
def PrAt (F : Nat → Prop) (w : World) (P : Px) (q : List Value) : Prop := ∃ pi ci pd cd drow, q = [.slice pi P.imps.length ci, .slice pd P.defs.length cd] ∧ GAt 2 w pi (P.imps.map impV) ∧ GAt 15 w pd drow ∧ DsAt F w P.defs drow ∧ (P.imps ≠ [] → ∃ a, pi = some a ∧ F a.block) ∧ (P.defs ≠ [] → ∃ a, pd = some a ∧ F a.block)
theorem PrAt.same {F S : Nat → Prop} {w w' : World} {P : Px} {q : List Value} (hg : Fr2 S w w') (hS : ∀ k, F k → ¬ S k) (h : PrAt F w P q) : PrAt F w' P q := by
  obtain ⟨pi, ci, pd, cd, drow, h1, h2, h3, h4, h5, h6⟩ := h
  exact ⟨pi, ci, pd, cd, drow, h1, gat_sameG (List.length_map _) h2 h5 hg hS, gat_sameG (Ds_len h4) h3 h6 hg hS, Ds_same hg hS h4, h5, h6⟩
theorem PrAt.mono {F F' : Nat → Prop} {w : World} {P : Px} {q : List Value} (hF : ∀ k, F k → F' k) (h : PrAt F w P q) : PrAt F' w P q := by
  obtain ⟨pi, ci, pd, cd, drow, h1, h2, h3, h4, h5, h6⟩ := h
  exact ⟨pi, ci, pd, cd, drow, h1, h2, h3, Ds_mono hF h4, fun h0 => by obtain ⟨a, ha, h8⟩ := h5 h0; exact ⟨a, ha, hF _ h8⟩, fun h0 => by obtain ⟨a, ha, h8⟩ := h6 h0; exact ⟨a, ha, hF _ h8⟩⟩
theorem PrAt.kept {F : Nat → Prop} {w w' : World} {P : Px} {q : List Value} (h : PrAt F w P q) (hg : w.grownBy w' none) : PrAt F w' P q := PrAt.same (S := fun _ => False) (Fr2.none hg) (fun _ _ h => h) h
theorem PrAt.bound {F : Nat → Prop} {w : World} {P : Px} {q : List Value} (h : PrAt F w P q) : PrAt (fun k => F k ∧ k < w.heap.size) w P q := by
  obtain ⟨pi, ci, pd, cd, drow, h1, h2, h3, h4, h5, h6⟩ := h
  refine ⟨pi, ci, pd, cd, drow, h1, h2, h3, Ds_bound h4, fun h0 => ?_, fun h0 => ?_⟩
  · obtain ⟨a, ha, h8⟩ := h5 h0
    exact ⟨a, ha, h8, GAt.blk h2 (fun e => h0 (List.map_eq_nil_iff.1 e)) a ha⟩
  · obtain ⟨a, ha, h8⟩ := h6 h0
    have hr := Ds_len h4
    exact ⟨a, ha, h8, GAt.blk h3 (fun e => by rw [e] at hr; exact h0 (List.eq_nil_of_length_eq_zero hr.symm)) a ha⟩
def PrgPost (x : Px) (w : World) (e : Ending) (w' : World) : Prop := w.grownBy w' none ∧ ∃ q, e = .returned (.agg q.toArray) ∧ PrAt (fun k => w.heap.size ≤ k) w' x q

/-! ### What a round keeps -/

/-- The blocks that a round may write: the program's box, the rows of imports and of definitions. -/
def Wr3 (b : Nat) (vi vd : Value) (k : Nat) : Prop := k = b ∨ vi.ownBlock = some k ∨ vd.ownBlock = some k
theorem Ds_move {X X' : Nat → Prop} {B : Nat} {w w' : World} {l : List Dx} {r : List (List Value)} (hf : Fr2 X w w') (hx : ∀ k, k < w.heap.size → ¬ X k → ¬ X' k) (h : DsAt (fun k => B ≤ k ∧ k < w.heap.size ∧ ¬ X k) w l r) : DsAt (fun k => B ≤ k ∧ k < w'.heap.size ∧ ¬ X' k) w' l r :=
  Ds_mono (fun k hk => ⟨hk.1, Nat.lt_of_lt_of_le hk.2.1 hf.size, hx k hk.2.1 hk.2.2⟩) (Ds_same hf (fun k hk => hk.2.2) h)
/-- A definition more. -/
theorem push_def {wr w7 wa w9 : World} {B b j base ni ci nd cd g9 n9 cap9 : Nat} {pi pd : Option Addr} {irows rows : List (List Value)} {q : List Value} {ks : List Dx} {x : Dx} {u : Value} (hB : B ≤ wr.heap.size) (hb : b < base) (hbr : b < wr.heap.size)
    (hOi : OwnG 2 99 wr base (.slice pi ni ci) irows) (hOd : OwnG 15 62 wr base (.slice pd nd cd) rows)
    (hLS : DsAt (fun k => B ≤ k ∧ k < wr.heap.size ∧ ¬ Wr3 b (.slice pi ni ci) (.slice pd nd cd) k) wr ks rows) (hg7 : wr.grownBy w7 none) (hq : DAt (fun k => wr.heap.size ≤ k) w7 x q) (hga : w7.grownBy wa none) (hsa : wa.heap.size = w7.heap.size + 1)
    (hg9 : wa.grownBy w9 (Value.slice pd nd cd).ownBlock) (hl9 : (Value.slice pd nd cd).ownBlock = some g9 ∨ g9 = w7.heap.size + 1) :
    DsAt (fun k => B ≤ k ∧ k < (w9.setCell ⟨b, j, none⟩ u).heap.size ∧ ¬ Wr3 b (.slice pi ni ci) (.slice (some ⟨g9, 0, none⟩) n9 cap9) k) (w9.setCell ⟨b, j, none⟩ u) (ks ++ [x]) (rows ++ [q]) := by
  have hai := OwnG.at hOi
  have had := OwnG.at hOd
  have s7 := hg7.size
  have s9 := hg9.size
  have fr : Fr2 (Wr3 b (.slice pi ni ci) (.slice pd nd cd)) w7 (w9.setCell ⟨b, j, none⟩ u) :=
    (Fr2.none hga).trans ((Fr2.of hg9 (fun k e => .inr (.inr e))).trans (Fr2.setCell (Fr2.refl _ _) (.inl rfl) u))
  have hno : ∀ k, k < w7.heap.size → ¬ Wr3 b (.slice pi ni ci) (.slice pd nd cd) k → ¬ Wr3 b (.slice pi ni ci) (.slice (some ⟨g9, 0, none⟩) n9 cap9) k := fun k hk h e => by
    rcases e with e | e | e
    · exact h (.inl e)
    · exact h (.inr (.inl e))
    · have e : g9 = k := Option.some.inj (show some g9 = some k from e)
      rcases hl9 with h9 | h9
      · exact h (.inr (.inr (by rw [h9, e])))
      · omega
  have hnew : ∀ k, wr.heap.size ≤ k → ¬ Wr3 b (.slice pi ni ci) (.slice pd nd cd) k := fun k hk e => by
    rcases e with e | e | e
    · omega
    · have := hai _ e; omega
    · have := had _ e; omega
  refine Ds_snoc ?_ ?_
  · exact DAt.mono (fun k hk => ⟨Nat.le_trans hB hk.1, Nat.lt_of_lt_of_le hk.2 fr.size, hno k hk.2 (hnew k hk.1)⟩) (DAt.same fr (fun k hk => hnew k hk.1) hq.bound)
  · refine Ds_move (X := Wr3 b (.slice pi ni ci) (.slice pd nd cd)) ((Fr2.none hg7).trans fr) (fun k hk => hno k (Nat.lt_of_lt_of_le hk s7)) hLS
/-- An import more. -/
theorem push_imp {wr w7 wa w9 : World} {B b j ni ci nd cd g9 n9 cap9 : Nat} {pi pd : Option Addr} {rows : List (List Value)} {ks : List Dx} {u : Value}
    (hLS : DsAt (fun k => B ≤ k ∧ k < wr.heap.size ∧ ¬ Wr3 b (.slice pi ni ci) (.slice pd nd cd) k) wr ks rows) (hg7 : wr.grownBy w7 none) (hga : w7.grownBy wa none) (hsa : w7.heap.size ≤ wa.heap.size)
    (hg9 : wa.grownBy w9 (Value.slice pi ni ci).ownBlock) (hl9 : (Value.slice pi ni ci).ownBlock = some g9 ∨ w7.heap.size ≤ g9) :
    DsAt (fun k => B ≤ k ∧ k < (w9.setCell ⟨b, j, none⟩ u).heap.size ∧ ¬ Wr3 b (.slice (some ⟨g9, 0, none⟩) n9 cap9) (.slice pd nd cd) k) (w9.setCell ⟨b, j, none⟩ u) ks rows := by
  have s7 := hg7.size
  have fr : Fr2 (Wr3 b (.slice pi ni ci) (.slice pd nd cd)) w7 (w9.setCell ⟨b, j, none⟩ u) :=
    (Fr2.none hga).trans ((Fr2.of hg9 (fun k e => .inr (.inl e))).trans (Fr2.setCell (Fr2.refl _ _) (.inl rfl) u))
  refine Ds_move (X := Wr3 b (.slice pi ni ci) (.slice pd nd cd)) ((Fr2.none hg7).trans fr) (fun k hk h e => ?_) hLS
  rcases e with e | e | e
  · exact h (.inl e)
  · have e : g9 = k := Option.some.inj (show some g9 = some k from e)
    rcases hl9 with h9 | h9
    · exact h (.inr (.inl (by rw [h9, e])))
    · omega
  · exact h (.inr (.inr e))
theorem sep_new {a b : Value} {g n c H : Nat} (h : Sep a b) (hb : ∀ k, b.ownBlock = some k → k < H) (hg : a.ownBlock = some g ∨ g = H) : Sep (.slice (some ⟨g, 0, none⟩) n c) b := fun k h1 h2 => by
  have e : g = k := Option.some.inj (show some g = some k from h1)
  rcases hg with h9 | h9
  · exact h k (by rw [h9, e]) h2
  · have := hb k h2; omega

theorem infoDf : (Tryz.prog.info? 62).map (fun i => (i.zero, i.size, i.bytes)) = some (some (.agg #[.bool false, .string ⟨#[]⟩, .slice none 0 0, .int .i64 0, .slice none 0 0, .int .i64 0, .string ⟨#[]⟩, .string ⟨#[]⟩, .bool false, .slice none 0 0, .bool false, .slice none 0 0, .int .i64 0, .int .i64 0, .int .i64 0]), 15, 208) := by kernel_rfl
theorem infoIm : (Tryz.prog.info? 99).map (fun i => (i.zero, i.size, i.bytes)) = some (some (.agg #[.string ⟨#[]⟩, .int .i64 0]), 2, 24) := by kernel_rfl

/-! ### A program's pieces, one kid more -/

theorem prog_next (T : List Tok) {l : List Tr} {j : Nat} {t : Tr} (h : l[j]? = some t) : (progX T (l.take (j + 1))).imps = (progX T (l.take j)).imps ++ (if kindT' t = 2 then [impX T (kidsT t)] else []) ∧ (progX T (l.take (j + 1))).defs = (progX T (l.take j)).defs ++ (if kindT' t = 3 then [defX T (kidsT t)] else []) := by
  unfold progX
  rw [take_snoc h]
  simp only [List.filter_append, List.map_append]
  refine ⟨?_, ?_⟩
  · congr 1
    by_cases h4 : kindT' t = 2
    · simp [h4]
    · simp [h4]
  · congr 1
    by_cases h4 : kindT' t = 3
    · simp [h4]
    · simp [h4]
theorem prog_len (T : List Tok) (l : List Tr) : (progX T l).imps.length ≤ l.length ∧ (progX T l).defs.length ≤ l.length := by
  unfold progX
  simp only [List.length_map]
  exact ⟨List.length_filter_le _ _, List.length_filter_le _ _⟩
/-- What is asked of a program's kid. -/
def OkP (T : List Tok) (t : Tr) : Prop := (∀ l, t = .nd 2 l → ∃ i n m, l = [.lf i, .lf n, .lf m]) ∧ (∀ l, t = .nd 3 l → ShD T (.nd 3 l))
theorem okp_of {T : List Tok} {l : List Tr} (h : ShProg T l) : ∀ t ∈ l, OkP T t := by
  obtain ⟨is, ds, e, rfl, h1, h2⟩ := h
  intro t ht
  simp only [List.mem_append] at ht
  rcases ht with (ht | ht) | ht
  · have h3 := h1 t ht
    cases h3 with
    | mk i n m hn => exact ⟨fun l e => by injection e with _ e; exact ⟨i, n, m, e.symm⟩, fun l e => by injection e with e; omega⟩
  · have h3 := h2 t ht
    refine ⟨fun l e => ?_, fun l e => by rw [← e]; exact h3⟩
    rw [e] at h3; cases h3
  · simp at ht; subst ht
    exact ⟨fun l e => (by cases e), fun l e => (by cases e)⟩
end Go.Proofs.YtoahgeleenpnjaaGreatDoor
namespace Go.Proofs.YtoahgeleenpnjaaGreatDoor
open Go.RowKit

def BoolOf (p : Prop) (w : World) (e : Ending) (w' : World) : Prop := w.grownBy w' none ∧ ∃ b : Bool, e = .returned (.bool b) ∧ (b = true ↔ p)
theorem ret_false {p : Prop} {w w' : World} (hg : w.grownBy w' none) (h : ¬ p) : BoolOf p w (.returned (.bool false)) w' := ⟨hg, false, rfl, by simp [h]⟩
end Go.Proofs.YtoahgeleenpnjaaGreatDoor
