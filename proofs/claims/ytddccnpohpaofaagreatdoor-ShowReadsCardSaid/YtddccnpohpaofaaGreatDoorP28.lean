/- Lemmas. -/
import Derived.Test.YtddccnpohpaofaaGreatDoorP27
set_option linter.unusedVariables false
set_option linter.unusedSimpArgs false
namespace Go.Proofs.YtddccnpohpaofaaGreatDoor
open Go.RowKit

inductive Th where
  | strs (ws : List (List UInt8))
  | ints (l : List Int)
  | box (x : Value)
def ThAt (w : World) (b : Nat) (v : Value) : Th → Prop
  | .strs ws => StrsAt w v ws
  | .ints l => OwnL w (b + 1) v l
  | .box x => ∃ g, v = .slice (some ⟨g, 0, none⟩) 1 1 ∧ w.cell? ⟨g, 0, none⟩ = some x

def Apart (w0 w : World) (b : Nat) (vn : Value) (A : Nat → Prop) (p : Value × Th) : Prop :=
  ThAt w b p.1 p.2 ∧ ∀ k, p.1.ownBlock = some k → w0.heap.size ≤ k ∧ b < k ∧ k < w.heap.size ∧ vn.ownBlock ≠ some k ∧ ¬ A k
def Sepp (p q : Value × Th) : Prop := ∀ k, p.1.ownBlock = some k → q.1.ownBlock ≠ some k
/-- From w0 to w, where vn0 and A0 were at first. -/
def KX (b bb : Nat) (T : List Tok) (D n : Nat) (A0 : Nat → Prop) (vn0 : Value) (w0 w : World) (s : St) (u : Nat) (N : List Nd) (vn : Value) (L : List (Value × Th)) : Prop :=
  ∃ A : Nat → Prop, XAt w b bb T D n s u N vn A ∧ (∀ j, A j → A0 j) ∧ (∀ p ∈ L, Apart w0 w b vn A p) ∧ Step b bb vn0 w0 vn w ∧ (∀ k, A0 k → b < k) ∧ (∀ k, w0.heap.size ≤ k → A0 k) ∧ b < w0.heap.size ∧ L.Pairwise Sepp

theorem ThAt.keptF {S : Nat → Prop} {w w' : World} {b : Nat} {v : Value} {t : Th} (h : ThAt w b v t) (hf : Fr2 S w w') (hk : ∀ k, v.ownBlock = some k → k < w.heap.size ∧ ¬ S k) : ThAt w' b v t := by
  cases t with
  | strs ws =>
    obtain ⟨g, e, hc⟩ := h
    have h1 := hk g (by rw [e]; rfl)
    exact ⟨g, e, fun j x hx => (World.cell?_of_block (a := ⟨g, j, none⟩) (hf.block g h1.1 h1.2)).trans (hc j x hx)⟩
  | ints l => exact OwnG.keptF h hf fun k e => (hk k e).2
  | box x =>
    obtain ⟨g, e, hc⟩ := h
    have h1 := hk g (by rw [e]; rfl)
    exact ⟨g, e, (World.cell?_of_block (a := ⟨g, 0, none⟩) (hf.block g h1.1 h1.2)).trans hc⟩

section
variable {b bb : Nat} {T : List Tok} {D n : Nat} {A0 : Nat → Prop} {vn0 : Value} {w0 w w' : World} {s : St} {u : Nat} {N : List Nd} {vn : Value} {L : List (Value × Th)}
theorem XAt.wide {A A' : Nat → Prop} (h : XAt w b bb T D n s u N vn A) (ha : ∀ j, A j → A' j) (hf : ∀ k, A' k → b < k) (hn : ∀ k, w.heap.size ≤ k → A' k) : XAt w b bb T D n s u N vn A' := by
  obtain ⟨pt, ct, K, hB, hK⟩ := h.bld
  exact ⟨h.box, ⟨pt, ct, K, hB, fun i x hx hn a ha' => ha _ (hK i x hx hn a ha')⟩, hf, hn, h.lt, h.own, h.ok, h.few⟩
theorem KX.start {A : Nat → Prop} (h : XAt w b bb T D n s u N vn A) : KX b bb T D n A vn w w s u N vn [] :=
  ⟨A, h, fun _ h => h, fun p hp => by simp at hp, Step.refl _ _ _ _, h.far, h.new, h.lt', List.Pairwise.nil⟩
theorem KX.done (h : KX b bb T D n A0 vn0 w0 w s u N vn L) : XAt w b bb T D n s u N vn A0 ∧ Step b bb vn0 w0 vn w := by
  obtain ⟨A, h1, h2, -, h4, h5, h6, -⟩ := h
  exact ⟨h1.wide h2 h5 fun k hk => h6 k (Nat.le_trans h4.fr.size hk), h4⟩
theorem KX.kept (h : KX b bb T D n A0 vn0 w0 w s u N vn L) (hg : w.grownBy w' none) : KX b bb T D n A0 vn0 w0 w' s u N vn L := by
  obtain ⟨A, h1, h2, h3, h4, h5, h6, h7⟩ := h
  refine ⟨A, h1.kept hg, h2, fun p hp => ?_, h4.trans (Step.of hg), h5, h6, h7⟩
  obtain ⟨t, k⟩ := h3 p hp
  exact ⟨t.keptF (S := fun _ => False) (Fr2.none hg) fun j e => ⟨(k j e).2.2.1, fun h => h⟩, fun j e => ⟨(k j e).1, (k j e).2.1, Nat.lt_of_lt_of_le (k j e).2.2.1 hg.size, (k j e).2.2.2⟩⟩
theorem KX.drew (h : KX b bb T D n A0 vn0 w0 w s u N vn L) : KX b bb T D n A0 vn0 w0 w.drew s u N vn L := h.kept (gb_drew (gb_refl _ _))
theorem KX.alloc (h : KX b bb T D n A0 vn0 w0 w s u N vn L) (o : Obj) : KX b bb T D n A0 vn0 w0 (w.alloc o) s u N vn L := h.kept (gb_alloc (gb_refl _ _) _)
theorem KX.few (h : KX b bb T D n A0 vn0 w0 w s u N vn L) {L' : List (Value × Th)} (hl : L'.Sublist L) : KX b bb T D n A0 vn0 w0 w s u N vn L' := by
  obtain ⟨A, h1, h2, h3, h4, h5, h6, h7, h8⟩ := h
  exact ⟨A, h1, h2, fun p hp => h3 p (hl.subset hp), h4, h5, h6, h7, h8.sublist hl⟩
theorem KX.nils (h : KX b bb T D n A0 vn0 w0 w s u N vn L) : KX b bb T D n A0 vn0 w0 w s u N vn [] := h.few (List.nil_sublist _)
theorem KX.innc (h : KX b bb T D n A0 vn0 w0 w s u N vn L) : w.cell? ⟨b, 7, none⟩ = some (.bool s.inn) := by
  obtain ⟨A, h1, -⟩ := h
  exact (cells10 h1.box).2.2.2.2.2.2.2.1
theorem KX.cell (h : KX b bb T D n A0 vn0 w0 w s u N vn L) : w.cell? ⟨b, 0, none⟩ = some (.pointer (some ⟨bb, 0, none⟩)) := by
  obtain ⟨A, h1, -⟩ := h
  exact (cells10 h1.box).1
theorem KX.ok (h : KX b bb T D n A0 vn0 w0 w s u N vn L) : s.i < T.length := by
  obtain ⟨A, h1, -⟩ := h
  exact h1.ok

/-- A block of one's own is new. -/
theorem KX.fresh (h : KX b bb T D n A0 vn0 w0 w s u N vn L) {o : Obj} {v : Value} {t : Th} (ht : ThAt (w.alloc o) b v t) (hv : v.ownBlock = some w.heap.size) : KX b bb T D n A0 vn0 w0 (w.alloc o) s u N vn ((v, t) :: L) := by
  obtain ⟨A, h1, h2, h3, h4, h5, h6, h7, h8⟩ := h
  have hb := h1.lt'
  have hs : (w.alloc o).heap.size = w.heap.size + 1 := by simp
  have hg := World.grownBy_alloc w o none
  have h0 := h4.fr.size
  have hx := h1.kept hg
  refine ⟨fun j => A j ∧ j ≠ w.heap.size, ⟨hx.box, h1.bld.keptF (S := fun _ => False) (Fr2.none hg) (fun _ _ h => h) (fun _ _ h => h) (fun _ _ h => h) (fun k hk ha => ⟨ha, by omega⟩), fun k hk => h1.far k hk.1, fun k hk => ⟨h1.new k (by omega), by omega⟩, hx.lt, hx.own, hx.ok, hx.few⟩, fun j hj => h2 j hj.1, fun p hp => ?_, h4.trans (Step.of hg), h5, h6, h7, List.pairwise_cons.2 ⟨fun p hp k e e2 => ?_, h8⟩⟩
  · rcases List.mem_cons.1 hp with rfl | hp
    · refine ⟨ht, fun k e => ?_⟩
      have hk : w.heap.size = k := by rw [hv] at e; exact Option.some.inj e
      subst hk
      exact ⟨h0, hb, by omega, fun e2 => by have := (h1.own _ e2).2; omega, fun hA => hA.2 rfl⟩
    · obtain ⟨t, k⟩ := h3 p hp
      exact ⟨t.keptF (S := fun _ => False) (Fr2.none hg) fun j e => ⟨(k j e).2.2.1, fun h => h⟩, fun j e => ⟨(k j e).1, (k j e).2.1, by have := (k j e).2.2.1; omega, (k j e).2.2.2.1, fun hA => (k j e).2.2.2.2 hA.1⟩⟩
  · have hk : w.heap.size = k := by rw [hv] at e; exact Option.some.inj e
    have := ((h3 p hp).2 k e2).2.2.1
    omega

theorem KX.strs (h : KX b bb T D n A0 vn0 w0 w s u N vn L) (xs : List ByteArray) (ty : TypeId) : KX b bb T D n A0 vn0 w0 (w.alloc (.cells (xs.map Value.string).toArray ty)) s u N vn ((.slice (some ⟨w.heap.size, 0, none⟩) xs.length xs.length, .strs (xs.map fun x => x.data.toList)) :: L) := by
  refine h.fresh ⟨w.heap.size, by simp, fun j x hx => ?_⟩ rfl
  rw [cell_of_row _ _ j _ _ (0, 0) (heap_alloc_new w _)]
  rw [List.getElem?_map] at hx
  rw [List.getElem?_toArray, List.getElem?_map]
  cases hq : xs[j]? with
  | none => rw [hq] at hx; cases hx
  | some y =>
    rw [hq] at hx
    obtain rfl : y.data.toList = x := Option.some.inj hx
    rfl
theorem KX.strs1 (h : KX b bb T D n A0 vn0 w0 w s u N vn L) (x : ByteArray) (ty : TypeId) : KX b bb T D n A0 vn0 w0 (w.alloc (.cells #[.string x] ty)) s u N vn ((.slice (some ⟨w.heap.size, 0, none⟩) 1 1, .strs [x.data.toList]) :: L) := h.strs [x] ty
theorem KX.strs2 (h : KX b bb T D n A0 vn0 w0 w s u N vn L) (x y : ByteArray) (ty : TypeId) : KX b bb T D n A0 vn0 w0 (w.alloc (.cells #[.string x, .string y] ty)) s u N vn ((.slice (some ⟨w.heap.size, 0, none⟩) 2 2, .strs [x.data.toList, y.data.toList]) :: L) := h.strs [x, y] ty
theorem KX.boxed (h : KX b bb T D n A0 vn0 w0 w s u N vn L) (x : Value) (ty : TypeId) : KX b bb T D n A0 vn0 w0 (w.alloc (.cells #[x] ty)) s u N vn ((.slice (some ⟨w.heap.size, 0, none⟩) 1 1, .box x) :: L) :=
  h.fresh ⟨w.heap.size, rfl, by rw [cell_of_row _ _ 0 _ _ (0, 0) (heap_alloc_new w _)]; rfl⟩ rfl
theorem KX.nilS (h : KX b bb T D n A0 vn0 w0 w s u N vn L) : KX b bb T D n A0 vn0 w0 w s u N vn ((.slice none 0 0, .ints []) :: L) := by
  obtain ⟨A, h1, h2, h3, h4, h5, h6, h7, h8⟩ := h
  refine ⟨A, h1, h2, fun p hp => ?_, h4, h5, h6, h7, List.pairwise_cons.2 ⟨fun p hp k e => (by cases e), h8⟩⟩
  rcases List.mem_cons.1 hp with rfl | hp
  · exact ⟨OwnL.nil _ _, fun k e => by cases e⟩
  · exact h3 p hp

theorem OwnL.newL (w : World) (base : Nat) (vs : List Int) (h0 : vs ≠ []) (hl : vs.length ≤ 1000000) (hb : base ≤ w.heap.size) : OwnL (w.alloc (.cells (intsV vs).toArray 3)) base (.slice (some ⟨w.heap.size, 0, none⟩) vs.length vs.length) vs := by
  refine ⟨?_, one_wid (intsV_one _)⟩
  rw [one_len, one_flat, intsV_len]
  exact ⟨by simp [intsV], .inr ⟨_, vs.length, _, rfl, hb, heap_alloc_new w _, by simp, by unfold maxLen; omega, by simp [intsV], by rw [List.take_of_length_le (by simp [intsV])]⟩⟩
theorem KX.ints (h : KX b bb T D n A0 vn0 w0 w s u N vn L) (vs : List Int) (h0 : vs ≠ []) (hl : vs.length ≤ 1000000) : KX b bb T D n A0 vn0 w0 (w.alloc (.cells (intsV vs).toArray 3)) s u N vn ((.slice (some ⟨w.heap.size, 0, none⟩) vs.length vs.length, .ints vs) :: L) := by
  refine h.fresh (OwnL.newL w (b + 1) vs h0 hl ?_) rfl
  obtain ⟨A, h1, -⟩ := h
  exact h1.lt'

/-- A call of the parser's own. -/
theorem KX.go {A : Nat → Prop} {s' : St} {u' : Nat} {N' : List Nd} {vn' : Value} (h2 : ∀ j, A j → A0 j) (h3 : ∀ p ∈ L, Apart w0 w b vn A p) (h4 : Step b bb vn0 w0 vn w) (h5 : (∀ k, A0 k → b < k) ∧ (∀ k, w0.heap.size ≤ k → A0 k) ∧ b < w0.heap.size ∧ L.Pairwise Sepp) (hbb : bb < b) (hx : XAt w' b bb T D n s' u' N' vn' A) (hs : Step b bb vn w vn' w') : KX b bb T D n A0 vn0 w0 w' s' u' N' vn' L := by
  refine ⟨A, hx, h2, fun p hp => ?_, h4.trans hs, h5⟩
  obtain ⟨t, k⟩ := h3 p hp
  refine ⟨t.keptF hs.fr fun j e => ?_, fun j e => ?_⟩
  · obtain ⟨k1, k2, k3, k4, -⟩ := k j e
    exact ⟨k3, fun h => by rcases h with h | h | h; omega; omega; exact k4 h⟩
  · obtain ⟨k1, k2, k3, k4, k5⟩ := k j e
    refine ⟨k1, k2, Nat.lt_of_lt_of_le k3 hs.fr.size, fun h => ?_, k5⟩
    rcases hs.own j h with h | h
    · exact k4 h
    · omega
theorem KX.call {P : Program} {f k : Nat} {args : Array Value} {r : RT} (hk : KX b bb T D n A0 vn0 w0 w s s.i N vn L) (C : ∀ A, XAt w b bb T D n s s.i N vn A → Calls P f args w (IPost b bb T D n k s r N vn A w)) :
    Calls P f args w fun e w' => ∃ (v : Int) (N' : List Nd) (vn' : Value), e = .returned (.int .i64 v) ∧ KX b bb T D n A0 vn0 w0 w' r.2 r.2.i N' vn' L ∧ OutD k N s r N' [v] ∧ (s.e ≠ 0 → r.2.e ≠ 0) := by
  obtain ⟨A, h1, h2, h3, h4, h5⟩ := hk
  refine (C A h1).mono ?_
  rintro e w' ⟨v, N', vn', rfl, g1, g2, g3, g4⟩
  exact ⟨v, N', vn', rfl, KX.go h2 h3 h4 h5 h1.lt g1 g2, g3, g4⟩
/-- A call that changes nothing. -/
theorem KX.val {P : Program} {f : Nat} {args : Array Value} {v : Value} (hk : KX b bb T D n A0 vn0 w0 w s u N vn L) (C : ∀ A, XAt w b bb T D n s u N vn A → Calls P f args w (ValPost v w)) :
    Calls P f args w fun e w' => e = .returned v ∧ KX b bb T D n A0 vn0 w0 w' s u N vn L := by
  obtain ⟨A, h1, -⟩ := id hk
  refine (C A h1).mono ?_
  rintro e w' ⟨rfl, hg⟩
  exact ⟨rfl, hk.kept hg⟩
/-- A list of one's own was appended to. -/
theorem KX.appended {v1 v' : Value} {l1 l : List Int} (hk : KX b bb T D n A0 vn0 w0 w s u N vn L) {L2 : List (Value × Th)} (hm : ((v1, Th.ints l1) :: L2).Sublist L) (ho : OwnL w' (b + 1) v' l) (hg : w.grownBy w' v1.ownBlock) (hb : ∀ k, v'.ownBlock = some k → v1.ownBlock = some k ∨ w.heap.size ≤ k) : KX b bb T D n A0 vn0 w0 w' s u N vn ((v', .ints l) :: L2) := by
  obtain ⟨A, h1, h2, h3, h4, h5, h6, h7, h8⟩ := hk
  obtain ⟨-, hk1⟩ := h3 _ (hm.subset (List.mem_cons_self ..))
  obtain ⟨hp1, hp2⟩ := List.pairwise_cons.1 (h8.sublist hm)
  have hf : Fr2 (fun k => v1.ownBlock = some k) w w' := Fr2.of hg (fun k e => e)
  have hat := fun k e => OwnG.at ho k e
  have hlt := h1.lt
  have hbw := h1.lt'
  refine ⟨fun j => A j ∧ v'.ownBlock ≠ some j, ⟨hf.keep h1.box (fun e => by have := (hk1 _ e).2.1; omega), h1.bld.keptF hf (fun k hk e => by have := (hk1 _ e).2.1; omega) (fun k e e2 => (hk1 _ e2).2.2.2.1 e) (fun k ha e => (hk1 _ e).2.2.2.2 ha) (fun k hk ha => ⟨ha, fun e => ?_⟩), fun k hk => h1.far k hk.1, fun k hk => ⟨h1.new k (Nat.le_trans hf.size hk), fun e => by have := (hat k e).2; omega⟩, h1.lt, fun k e => ⟨(h1.own k e).1, Nat.lt_of_lt_of_le (h1.own k e).2 hf.size⟩, h1.ok, h1.few⟩, fun j hj => h2 j hj.1, fun p hp => ?_, ⟨⟨hf.os.trans h4.fr.os, hf.tape.trans h4.fr.tape, hf.output.trans h4.fr.output, Nat.le_trans h4.fr.size hf.size, fun k hk hn => ?_⟩, h4.own⟩, h5, h6, h7, List.pairwise_cons.2 ⟨fun p hp k e e2 => ?_, hp2⟩⟩
  · rcases hb k e with h | h
    · exact (hk1 _ h).2.2.2.2 ha
    · omega
  · rcases List.mem_cons.1 hp with rfl | hp
    rotate_left
    · obtain ⟨t, k⟩ := h3 p (hm.subset (List.mem_cons_of_mem _ hp))
      refine ⟨t.keptF hf fun j e => ⟨(k j e).2.2.1, fun e2 => hp1 p hp j e2 e⟩, fun j e => ⟨(k j e).1, (k j e).2.1, Nat.lt_of_lt_of_le (k j e).2.2.1 hf.size, (k j e).2.2.2.1, fun hA => (k j e).2.2.2.2 hA.1⟩⟩
    refine ⟨ho, fun k e => ⟨?_, ?_, (hat k e).2, fun e2 => ?_, fun hA => hA.2 e⟩⟩
    · rcases hb k e with h | h
      · exact (hk1 _ h).1
      · exact Nat.le_trans h4.fr.size h
    · have := (hat k e).1; omega
    · rcases hb k e with h | h
      · exact (hk1 _ h).2.2.2.1 e2
      · have := (h1.own _ e2).2; omega
  · rw [hf.block k (Nat.lt_of_lt_of_le hk h4.fr.size) (fun e => by have := (hk1 _ e).1; omega), h4.fr.block k hk hn]
  · rcases hb k e with h | h
    · exact hp1 p hp k h e2
    · have := ((h3 p (hm.subset (List.mem_cons_of_mem _ hp))).2 k e2).2.2.1
      omega

theorem KX.list {v : Value} {l : List Int} (hk : KX b bb T D n A0 vn0 w0 w s u N vn L) (hm : (v, Th.ints l) ∈ L) : ∃ p c, v = .slice p l.length c ∧ VAt w p (intsV l) ∧ l.length ≤ c ∧ OwnL w (b + 1) v l := by
  obtain ⟨A, h1, h2, h3, -⟩ := hk
  obtain ⟨ho, -⟩ := h3 _ hm
  obtain ⟨p, c, e1, e2, e3, -⟩ := OwnL.parts ho
  exact ⟨p, c, e1, e2, e3, ho⟩
theorem KX.str {v : Value} {ws : List (List UInt8)} (hk : KX b bb T D n A0 vn0 w0 w s u N vn L) (hm : (v, Th.strs ws) ∈ L) : StrsAt w v ws := by
  obtain ⟨A, h1, h2, h3, -⟩ := hk
  exact (h3 _ hm).1

/-- append of a list of places to one's own. -/
theorem wp_kx {o : Oper} {a : Act} {K : Act → World → Prop} {Q : Exit → Act → World → Prop} (os ox : Operand) (ho : o.op = .call { callee := .builtin .append, args := #[os, ox], argTypes := #[70, 70] })
    {l1 l2 : List Int} {v1 : Value} {q : Option Addr} {m c : Nat} {L2 : List (Value × Th)} (hk : KX b bb T D n A0 vn0 w0 w s u N vn L) (hm : ((v1, Th.ints l1) :: L2).Sublist L) (hs : a.eval os = v1) (hx : a.eval ox = .slice q m c) (hl : l2.length = m) (hy : VAt w q (intsV l2)) (h1 : l1.length ≤ 1000000) (h2 : l2.length ≤ 1000000)
    (h : ∀ v' w', KX b bb T D n A0 vn0 w0 w' s u N vn ((v', .ints (l1 ++ l2)) :: L2) → K (a.put o.dst v') w') : o.wp Tryz.prog a w K Q := by
  obtain ⟨p1, c1, -, -, -, hown⟩ := hk.list (hm.subset (List.mem_cons_self ..))
  have hown2 := hown.1
  rw [one_len, one_flat, intsV_len] at hown2
  obtain ⟨i0, hi, hi0, hi1, hi2⟩ := info_parts info_int
  have hbw : b + 1 ≤ w.heap.size := by
    obtain ⟨A, g1, -⟩ := id hk
    exact g1.lt'
  by_cases h0 : l2 = []
  · subst h0
    obtain rfl : m = 0 := hl.symm
    have hrun := run_append_zero (P := Tryz.prog) (w := w) (b + 1) 70 o.type 3 i0 1 Tryz.underlying70 hi v1 l1.length (intsV l1) hown2 q c
    have h3 := h v1 w (by rw [List.append_nil]; exact hk.few hm)
    unfold Oper.wp
    simp [execOp, ho, resolve, invoke, builtin, hs, hx, hrun, Result.andThen]
    exact h3
  · obtain ⟨g, off, rfl, hg, hc⟩ := hy.resolve_left (fun e => h0 (List.length_eq_zero_iff.1 (by have := congrArg List.length e; rwa [intsV_len] at this)))
    refine wp_append_lies w os ox 70 ho (b + 1) 3 i0 (.int .i64 0) 1 8 Tryz.underlying70 hi hi0 hi1 hi2 rfl (by decide) v1 l1.length (intsV l1) hs hown2 ⟨g, off, none⟩ m c (intsV l2) hx (by rw [intsV_len, hl, Nat.mul_one]) (fun j x hj => by rw [Addr.add_lit]; exact hc j x hj) (intsV_one _) (by rw [← hl]; exact List.length_pos_iff.2 h0) (by unfold maxLen; omega) (by omega) hbw w.heap.size rfl ?_
    intro g' cap' w' k1 k2 k3 k4
    refine h _ _ (hk.appended hm ⟨?_, one_wid (intsV_one _)⟩ k2 (fun k e => ?_))
    · rw [one_len, one_flat, intsV_append, List.length_append, intsV_len, intsV_len, hl]; exact k1
    · have hk' : g' = k := by simpa [Value.ownBlock] using e
      subst hk'
      exact k3.imp id fun h => by omega
theorem wpList_kx {ops : Array Oper} {rest : List Oper} {o : Oper} {a : Act} {Q : Exit → Act → World → Prop} (hgd : o.guard = none) (os ox : Operand) (ho : o.op = .call { callee := .builtin .append, args := #[os, ox], argTypes := #[70, 70] })
    {l1 l2 : List Int} {v1 : Value} {q : Option Addr} {m c : Nat} {L2 : List (Value × Th)} (hk : KX b bb T D n A0 vn0 w0 w s u N vn L) (hm : ((v1, Th.ints l1) :: L2).Sublist L) (hs : a.eval os = v1) (hx : a.eval ox = .slice q m c) (hl : l2.length = m) (hy : VAt w q (intsV l2)) (h1 : l1.length ≤ 1000000) (h2 : l2.length ≤ 1000000)
    (h : ∀ v' w', KX b bb T D n A0 vn0 w0 w' s u N vn ((v', .ints (l1 ++ l2)) :: L2) → wpList Tryz.prog ops Q rest (a.put o.dst v') w') : wpList Tryz.prog ops Q (o :: rest) a w :=
  wpList_plain hgd fun _ hK => wp_kx os ox ho hk hm hs hx hl hy h1 h2 fun v' w' h9 => hK _ _ (h v' w' h9)
theorem step_kx {ops : Array Oper} {o : Oper} {a : Act} {K : Act → World → Prop} {Q : Exit → Act → World → Prop} {E : Prop} (hgd : o.guard = none) (os ox : Operand) (ho : o.op = .call { callee := .builtin .append, args := #[os, ox], argTypes := #[70, 70] })
    {l1 l2 : List Int} {v1 : Value} {q : Option Addr} {m c : Nat} {L2 : List (Value × Th)} (hk : KX b bb T D n A0 vn0 w0 w s u N vn L) (hm : ((v1, Th.ints l1) :: L2).Sublist L) (hs : a.eval os = v1) (hx : a.eval ox = .slice q m c) (hl : l2.length = m) (hy : VAt w q (intsV l2)) (h1 : l1.length ≤ 1000000) (h2 : l2.length ≤ 1000000)
    (h : ∀ v' w', KX b bb T D n A0 vn0 w0 w' s u N vn ((v', .ints (l1 ++ l2)) :: L2) → K (a.put o.dst v') w') : if Region.wanted o (yielded ops a.tmps) = true then Oper.wp Tryz.prog o a w K Q else E := by
  have hw : Region.wanted o (yielded ops a.tmps) = true := by simp [Region.wanted, hgd]
  rw [if_pos hw]
  exact wp_kx os ox ho hk hm hs hx hl hy h1 h2 h

/-- A node of places that lie in a list of one's own. -/
theorem KX.node {k kind : Nat} {v : Value} {vs : List Int} {Ns : List Nd} {s0 : St} {r : RT} (hk : KX b bb T D n A0 vn0 w0 w s s.i N vn L) (hm : (v, Th.ints vs) ∈ L) (hT : T.length ≤ 40000) (hO : OutD (k + 1) Ns s0 r N vs) (hr : r.2 = s) (hN : Ns.length ≤ 2 * s0.i) (hl : vs.length ≤ 30000) :
    Calls Tryz.prog 42 #[.pointer (some ⟨bb, 0, none⟩), .int .i64 (kind : Int), v] w fun e w' => ∃ (x : Int) (N' : List Nd) (vn' : Value), e = .returned (.int .i64 x) ∧ KX b bb T D n A0 vn0 w0 w' s s.i N' vn' L ∧ OutD k Ns s0 ([.nd kind r.1], r.2) N' [x] := by
  obtain ⟨p, c, rfl, hv, -, -⟩ := hk.list hm
  have hk2 := hk
  obtain ⟨A, h1, h2, h3, h4, h5⟩ := hk
  have hfew := h1.few
  have hok := h1.ok
  by_cases he : r.2.e = 0
  · have hO2 := hO.node (kind := kind) he
    have hb := hO2.out.2
    refine (Node_far A bb T s.i N vn (kind : Int) vs p c w (by omega) (by omega) h1.bld h1.new hv (hO.ok he)).mono ?_
    rintro e w' ⟨rfl, vn', g1, g2, g3⟩
    obtain ⟨hx, hst⟩ := h1.bump g1 g2 g3 (by
      rw [← hr]
      have hb2 : (N ++ [(⟨(kind : Int), -1, vs⟩ : Nd)]).length + 2 * s0.i ≤ Ns.length + 2 * r.2.i := hb
      omega)
    exact ⟨_, _, vn', rfl, KX.go h2 h3 h4 h5 h1.lt hx hst, hO2⟩
  · refine (Node_none bb T s.i N vn (kind : Int) vs p c w (by omega) (by omega) h1.bld.bld hv (hO.no he)).mono ?_
    rintro e w' ⟨rfl, hg⟩
    exact ⟨-1, N, vn, rfl, hk2.kept hg, hO.none he⟩
end
end Go.Proofs.YtddccnpohpaofaaGreatDoor
namespace Go.Proofs.YtddccnpohpaofaaGreatDoor
open Go.RowKit

/-- What a function does that reads one thing, where P holds of the state. -/
def SubI (b bb : Nat) (T : List Tok) (D n : Nat) (P : St → Prop) (f : Nat) (sub : St → RT) : Prop :=
  ∀ (s : St) (N : List Nd) (vn : Value) (A : Nat → Prop) (w : World), P s → XAt w b bb T D n s s.i N vn A → Calls Tryz.prog f #[.pointer (some ⟨b, 0, none⟩)] w (IPost b bb T D n 0 s (sub s) N vn A w)
theorem IPost.fail {b bb : Nat} {T : List Tok} {D n m k : Nat} (hm : m ≠ 0) {s : St} {N : List Nd} {vn : Value} {A : Nat → Prop} {w w' : World} (h : XAt w' b bb T D n (failQ T m s) s.i N vn A) (hs : Step b bb vn w vn w') : IPost b bb T D n k s ([], failQ T m s) N vn A w (.returned (.int .i64 (-1))) w' :=
  ⟨-1, N, vn, rfl, by show XAt w' b bb T D n (failQ T m s) (failQ T m s).i N vn A; rw [fail_i]; exact h, hs, OutD.fail hm [], fun h => by show (failQ T m s).e ≠ 0; rw [fail_same T h]; exact h⟩

section
variable (b bb : Nat) (T : List Tok) (D n : Nat)

set_option maxRecDepth 100000 in
set_option maxHeartbeats 4000000 in
theorem nested_expression (hD : D ≤ 200) (hn : n ≤ D) (P : St → Prop) (sub : St → RT) (hC : n < D → SubI b bb T D (n + 1) P 164 sub) (s : St) (N : List Nd) (vn : Value) (A : Nat → Prop) (w : World) (hP : P s) (h : XAt w b bb T D n s s.i N vn A) :
    Calls Tryz.prog 43 #[.pointer (some ⟨b, 0, none⟩), .func (.func 164) #[] #[]] w (IPost b bb T D n 0 s (nestP T D n sub s) N vn A w) := by
  obtain ⟨d0, d1, d2, d3, d4, d5, d6, d7, d8, d9, d10⟩ := cells10 h.box
  have HX := Lib.hid h
  have HXD : Hid (∀ m, XAt (w.drewN m) b bb T D n s s.i N vn A) := Lib.hid (fun m => HX.out.kept (gb_drewN (gb_refl _ _) _))
  have HGD : Hid (∀ m, Step b bb vn w vn (w.drewN m)) := Lib.hid (fun m => Step.of (gb_drewN (gb_refl _ _) _))
  by_cases hnD : n = D
  · have HZ : Hid (nestP T D n sub s = ([], failQ T 23 s)) := Lib.hid (by unfold nestP; rw [if_pos hnD])
    have HF := Lib.hid (fun w h => pfail_c b bb T D n 23 s s.i N vn A w h)
    have e1 : (n == D) = true := by rw [hnD]; simp
    have e1' : ((n : Int) == (D : Int)) = true := by rw [hnD]; simp
    rw [HZ.out]
    clear h hC hP hn hD hnD
    go_enter Tryz.func43, Tryz.ntmps43
    go_wp2_with fail
    go_quiet (fail)
    go_wp2_with fail
    refine (HF.out _ (HXD.out _)).mono ?_
    rintro e w2 ⟨rfl, h2, st2⟩
    have HQ := Lib.hid (IPost.fail (k := 0) (by decide) h2 ((HGD.out _).trans st2))
    clear h2 st2
    go_wp2_with fail
    go_ret
    exact HQ.out
  · have HZ : Hid (nestP T D n sub s = sub s) := Lib.hid (by unfold nestP; rw [if_neg hnD])
    have HC := Lib.hid (fun w h => hC (by omega) s N vn A w hP h)
    have e1 : (n == D) = false := beq_eq_false_iff_ne.2 hnD
    have e1' : ((n : Int) == (D : Int)) = false := beq_eq_false_iff_ne.2 (by omega)
    have hw1 : IntKind.i64.wrap ((n : Int) + 1) = ((n + 1 : Nat) : Int) := by rw [IntWalk.i64_in _ (by omega)]; omega
    have hw2 : IntKind.i64.wrap (((n + 1 : Nat) : Int) - 1) = (n : Int) := by rw [IntWalk.i64_in _ (by omega)]; omega
    obtain ⟨n1, hn1⟩ : ∃ n1, n + 1 = n1 := ⟨_, rfl⟩
    rw [hn1] at hw1 hw2 HC
    have HXS : Hid (∀ m, XAt ((w.drewN m).setCell ⟨b, 6, none⟩ (.int .i64 (n1 : Int))) b bb T D n1 s s.i N vn A) := Lib.hid (fun m => (HXD.out m).turn ((Fr2.refl _ _).setCell (mine b) _) ((set_cells (i := 6) (HXD.out m).box).trans rfl) HX.out.ok)
    have HGS : Hid (∀ m, Step b bb vn w vn ((w.drewN m).setCell ⟨b, 6, none⟩ (.int .i64 (n1 : Int)))) := Lib.hid (fun m => (HGD.out m).trans (Step.self ((Fr2.refl _ _).setCell (mine b) _)))
    rw [HZ.out]
    clear h hC hP hn hD hnD hn1
    go_enter Tryz.func43, Tryz.ntmps43
    go_wp2_with fail
    go_quiet (fail)
    go_wp2_with fail
    refine (HC.out _ (HXS.out _)).mono ?_
    rintro e w2 ⟨v, N', vn', rfl, h2, st2, o2, k2⟩
    have HX2 := Lib.hid h2; have HS2 := Lib.hid ((HGS.out _).trans st2); have HO2 := Lib.hid o2; have HK2 := Lib.hid k2
    obtain ⟨d0, d1, d2, d3, d4, d5, d6, d7, d8, d9, d10⟩ := cells10 h2.box
    clear h2 st2 o2 k2 HXS HGS HXD HGD HC
    go_wp2_with fail
    go_ret
    have hf : Fr2 (Self b) w2 (w2.setCell ⟨b, 6, none⟩ (.int .i64 (n : Int))) := (Fr2.refl _ _).setCell (mine b) _
    exact ⟨v, N', vn', rfl, HX2.out.turn hf ((set_cells (i := 6) HX2.out.box).trans rfl) HX2.out.ok, HS2.out.trans (Step.self hf), HO2.out, HK2.out⟩

set_option maxRecDepth 100000 in
set_option maxHeartbeats 4000000 in
theorem nested_formula (hD : D ≤ 200) (hn : n ≤ D) (P : St → Prop) (sub : St → RT) (hC : n < D → SubI b bb T D (n + 1) P 44 sub) (s : St) (N : List Nd) (vn : Value) (A : Nat → Prop) (w : World) (hP : P s) (h : XAt w b bb T D n s s.i N vn A) :
    Calls Tryz.prog 43 #[.pointer (some ⟨b, 0, none⟩), .func (.func 44) #[] #[]] w (IPost b bb T D n 0 s (nestP T D n sub s) N vn A w) := by
  obtain ⟨d0, d1, d2, d3, d4, d5, d6, d7, d8, d9, d10⟩ := cells10 h.box
  have HX := Lib.hid h
  have HXD : Hid (∀ m, XAt (w.drewN m) b bb T D n s s.i N vn A) := Lib.hid (fun m => HX.out.kept (gb_drewN (gb_refl _ _) _))
  have HGD : Hid (∀ m, Step b bb vn w vn (w.drewN m)) := Lib.hid (fun m => Step.of (gb_drewN (gb_refl _ _) _))
  by_cases hnD : n = D
  · have HZ : Hid (nestP T D n sub s = ([], failQ T 23 s)) := Lib.hid (by unfold nestP; rw [if_pos hnD])
    have HF := Lib.hid (fun w h => pfail_c b bb T D n 23 s s.i N vn A w h)
    have e1 : (n == D) = true := by rw [hnD]; simp
    have e1' : ((n : Int) == (D : Int)) = true := by rw [hnD]; simp
    rw [HZ.out]
    clear h hC hP hn hD hnD
    go_enter Tryz.func43, Tryz.ntmps43
    go_wp2_with fail
    go_quiet (fail)
    go_wp2_with fail
    refine (HF.out _ (HXD.out _)).mono ?_
    rintro e w2 ⟨rfl, h2, st2⟩
    have HQ := Lib.hid (IPost.fail (k := 0) (by decide) h2 ((HGD.out _).trans st2))
    clear h2 st2
    go_wp2_with fail
    go_ret
    exact HQ.out
  · have HZ : Hid (nestP T D n sub s = sub s) := Lib.hid (by unfold nestP; rw [if_neg hnD])
    have HC := Lib.hid (fun w h => hC (by omega) s N vn A w hP h)
    have e1 : (n == D) = false := beq_eq_false_iff_ne.2 hnD
    have e1' : ((n : Int) == (D : Int)) = false := beq_eq_false_iff_ne.2 (by omega)
    have hw1 : IntKind.i64.wrap ((n : Int) + 1) = ((n + 1 : Nat) : Int) := by rw [IntWalk.i64_in _ (by omega)]; omega
    have hw2 : IntKind.i64.wrap (((n + 1 : Nat) : Int) - 1) = (n : Int) := by rw [IntWalk.i64_in _ (by omega)]; omega
    obtain ⟨n1, hn1⟩ : ∃ n1, n + 1 = n1 := ⟨_, rfl⟩
    rw [hn1] at hw1 hw2 HC
    have HXS : Hid (∀ m, XAt ((w.drewN m).setCell ⟨b, 6, none⟩ (.int .i64 (n1 : Int))) b bb T D n1 s s.i N vn A) := Lib.hid (fun m => (HXD.out m).turn ((Fr2.refl _ _).setCell (mine b) _) ((set_cells (i := 6) (HXD.out m).box).trans rfl) HX.out.ok)
    have HGS : Hid (∀ m, Step b bb vn w vn ((w.drewN m).setCell ⟨b, 6, none⟩ (.int .i64 (n1 : Int)))) := Lib.hid (fun m => (HGD.out m).trans (Step.self ((Fr2.refl _ _).setCell (mine b) _)))
    rw [HZ.out]
    clear h hC hP hn hD hnD hn1
    go_enter Tryz.func43, Tryz.ntmps43
    go_wp2_with fail
    go_quiet (fail)
    go_wp2_with fail
    refine (HC.out _ (HXS.out _)).mono ?_
    rintro e w2 ⟨v, N', vn', rfl, h2, st2, o2, k2⟩
    have HX2 := Lib.hid h2; have HS2 := Lib.hid ((HGS.out _).trans st2); have HO2 := Lib.hid o2; have HK2 := Lib.hid k2
    obtain ⟨d0, d1, d2, d3, d4, d5, d6, d7, d8, d9, d10⟩ := cells10 h2.box
    clear h2 st2 o2 k2 HXS HGS HXD HGD HC
    go_wp2_with fail
    go_ret
    have hf : Fr2 (Self b) w2 (w2.setCell ⟨b, 6, none⟩ (.int .i64 (n : Int))) := (Fr2.refl _ _).setCell (mine b) _
    exact ⟨v, N', vn', rfl, HX2.out.turn hf ((set_cells (i := 6) HX2.out.box).trans rfl) HX2.out.ok, HS2.out.trans (Step.self hf), HO2.out, HK2.out⟩

set_option maxRecDepth 100000 in
set_option maxHeartbeats 4000000 in
theorem nested_negation (hD : D ≤ 200) (hn : n ≤ D) (P : St → Prop) (sub : St → RT) (hC : n < D → SubI b bb T D (n + 1) P 125 sub) (s : St) (N : List Nd) (vn : Value) (A : Nat → Prop) (w : World) (hP : P s) (h : XAt w b bb T D n s s.i N vn A) :
    Calls Tryz.prog 43 #[.pointer (some ⟨b, 0, none⟩), .func (.func 125) #[] #[]] w (IPost b bb T D n 0 s (nestP T D n sub s) N vn A w) := by
  obtain ⟨d0, d1, d2, d3, d4, d5, d6, d7, d8, d9, d10⟩ := cells10 h.box
  have HX := Lib.hid h
  have HXD : Hid (∀ m, XAt (w.drewN m) b bb T D n s s.i N vn A) := Lib.hid (fun m => HX.out.kept (gb_drewN (gb_refl _ _) _))
  have HGD : Hid (∀ m, Step b bb vn w vn (w.drewN m)) := Lib.hid (fun m => Step.of (gb_drewN (gb_refl _ _) _))
  by_cases hnD : n = D
  · have HZ : Hid (nestP T D n sub s = ([], failQ T 23 s)) := Lib.hid (by unfold nestP; rw [if_pos hnD])
    have HF := Lib.hid (fun w h => pfail_c b bb T D n 23 s s.i N vn A w h)
    have e1 : (n == D) = true := by rw [hnD]; simp
    have e1' : ((n : Int) == (D : Int)) = true := by rw [hnD]; simp
    rw [HZ.out]
    clear h hC hP hn hD hnD
    go_enter Tryz.func43, Tryz.ntmps43
    go_wp2_with fail
    go_quiet (fail)
    go_wp2_with fail
    refine (HF.out _ (HXD.out _)).mono ?_
    rintro e w2 ⟨rfl, h2, st2⟩
    have HQ := Lib.hid (IPost.fail (k := 0) (by decide) h2 ((HGD.out _).trans st2))
    clear h2 st2
    go_wp2_with fail
    go_ret
    exact HQ.out
  · have HZ : Hid (nestP T D n sub s = sub s) := Lib.hid (by unfold nestP; rw [if_neg hnD])
    have HC := Lib.hid (fun w h => hC (by omega) s N vn A w hP h)
    have e1 : (n == D) = false := beq_eq_false_iff_ne.2 hnD
    have e1' : ((n : Int) == (D : Int)) = false := beq_eq_false_iff_ne.2 (by omega)
    have hw1 : IntKind.i64.wrap ((n : Int) + 1) = ((n + 1 : Nat) : Int) := by rw [IntWalk.i64_in _ (by omega)]; omega
    have hw2 : IntKind.i64.wrap (((n + 1 : Nat) : Int) - 1) = (n : Int) := by rw [IntWalk.i64_in _ (by omega)]; omega
    obtain ⟨n1, hn1⟩ : ∃ n1, n + 1 = n1 := ⟨_, rfl⟩
    rw [hn1] at hw1 hw2 HC
    have HXS : Hid (∀ m, XAt ((w.drewN m).setCell ⟨b, 6, none⟩ (.int .i64 (n1 : Int))) b bb T D n1 s s.i N vn A) := Lib.hid (fun m => (HXD.out m).turn ((Fr2.refl _ _).setCell (mine b) _) ((set_cells (i := 6) (HXD.out m).box).trans rfl) HX.out.ok)
    have HGS : Hid (∀ m, Step b bb vn w vn ((w.drewN m).setCell ⟨b, 6, none⟩ (.int .i64 (n1 : Int)))) := Lib.hid (fun m => (HGD.out m).trans (Step.self ((Fr2.refl _ _).setCell (mine b) _)))
    rw [HZ.out]
    clear h hC hP hn hD hnD hn1
    go_enter Tryz.func43, Tryz.ntmps43
    go_wp2_with fail
    go_quiet (fail)
    go_wp2_with fail
    refine (HC.out _ (HXS.out _)).mono ?_
    rintro e w2 ⟨v, N', vn', rfl, h2, st2, o2, k2⟩
    have HX2 := Lib.hid h2; have HS2 := Lib.hid ((HGS.out _).trans st2); have HO2 := Lib.hid o2; have HK2 := Lib.hid k2
    obtain ⟨d0, d1, d2, d3, d4, d5, d6, d7, d8, d9, d10⟩ := cells10 h2.box
    clear h2 st2 o2 k2 HXS HGS HXD HGD HC
    go_wp2_with fail
    go_ret
    have hf : Fr2 (Self b) w2 (w2.setCell ⟨b, 6, none⟩ (.int .i64 (n : Int))) := (Fr2.refl _ _).setCell (mine b) _
    exact ⟨v, N', vn', rfl, HX2.out.turn hf ((set_cells (i := 6) HX2.out.box).trans rfl) HX2.out.ok, HS2.out.trans (Step.self hf), HO2.out, HK2.out⟩

set_option maxRecDepth 100000 in
set_option maxHeartbeats 4000000 in
theorem nested_factor (hD : D ≤ 200) (hn : n ≤ D) (P : St → Prop) (sub : St → RT) (hC : n < D → SubI b bb T D (n + 1) P 160 sub) (s : St) (N : List Nd) (vn : Value) (A : Nat → Prop) (w : World) (hP : P s) (h : XAt w b bb T D n s s.i N vn A) :
    Calls Tryz.prog 43 #[.pointer (some ⟨b, 0, none⟩), .func (.func 160) #[] #[]] w (IPost b bb T D n 0 s (nestP T D n sub s) N vn A w) := by
  obtain ⟨d0, d1, d2, d3, d4, d5, d6, d7, d8, d9, d10⟩ := cells10 h.box
  have HX := Lib.hid h
  have HXD : Hid (∀ m, XAt (w.drewN m) b bb T D n s s.i N vn A) := Lib.hid (fun m => HX.out.kept (gb_drewN (gb_refl _ _) _))
  have HGD : Hid (∀ m, Step b bb vn w vn (w.drewN m)) := Lib.hid (fun m => Step.of (gb_drewN (gb_refl _ _) _))
  by_cases hnD : n = D
  · have HZ : Hid (nestP T D n sub s = ([], failQ T 23 s)) := Lib.hid (by unfold nestP; rw [if_pos hnD])
    have HF := Lib.hid (fun w h => pfail_c b bb T D n 23 s s.i N vn A w h)
    have e1 : (n == D) = true := by rw [hnD]; simp
    have e1' : ((n : Int) == (D : Int)) = true := by rw [hnD]; simp
    rw [HZ.out]
    clear h hC hP hn hD hnD
    go_enter Tryz.func43, Tryz.ntmps43
    go_wp2_with fail
    go_quiet (fail)
    go_wp2_with fail
    refine (HF.out _ (HXD.out _)).mono ?_
    rintro e w2 ⟨rfl, h2, st2⟩
    have HQ := Lib.hid (IPost.fail (k := 0) (by decide) h2 ((HGD.out _).trans st2))
    clear h2 st2
    go_wp2_with fail
    go_ret
    exact HQ.out
  · have HZ : Hid (nestP T D n sub s = sub s) := Lib.hid (by unfold nestP; rw [if_neg hnD])
    have HC := Lib.hid (fun w h => hC (by omega) s N vn A w hP h)
    have e1 : (n == D) = false := beq_eq_false_iff_ne.2 hnD
    have e1' : ((n : Int) == (D : Int)) = false := beq_eq_false_iff_ne.2 (by omega)
    have hw1 : IntKind.i64.wrap ((n : Int) + 1) = ((n + 1 : Nat) : Int) := by rw [IntWalk.i64_in _ (by omega)]; omega
    have hw2 : IntKind.i64.wrap (((n + 1 : Nat) : Int) - 1) = (n : Int) := by rw [IntWalk.i64_in _ (by omega)]; omega
    obtain ⟨n1, hn1⟩ : ∃ n1, n + 1 = n1 := ⟨_, rfl⟩
    rw [hn1] at hw1 hw2 HC
    have HXS : Hid (∀ m, XAt ((w.drewN m).setCell ⟨b, 6, none⟩ (.int .i64 (n1 : Int))) b bb T D n1 s s.i N vn A) := Lib.hid (fun m => (HXD.out m).turn ((Fr2.refl _ _).setCell (mine b) _) ((set_cells (i := 6) (HXD.out m).box).trans rfl) HX.out.ok)
    have HGS : Hid (∀ m, Step b bb vn w vn ((w.drewN m).setCell ⟨b, 6, none⟩ (.int .i64 (n1 : Int)))) := Lib.hid (fun m => (HGD.out m).trans (Step.self ((Fr2.refl _ _).setCell (mine b) _)))
    rw [HZ.out]
    clear h hC hP hn hD hnD hn1
    go_enter Tryz.func43, Tryz.ntmps43
    go_wp2_with fail
    go_quiet (fail)
    go_wp2_with fail
    refine (HC.out _ (HXS.out _)).mono ?_
    rintro e w2 ⟨v, N', vn', rfl, h2, st2, o2, k2⟩
    have HX2 := Lib.hid h2; have HS2 := Lib.hid ((HGS.out _).trans st2); have HO2 := Lib.hid o2; have HK2 := Lib.hid k2
    obtain ⟨d0, d1, d2, d3, d4, d5, d6, d7, d8, d9, d10⟩ := cells10 h2.box
    clear h2 st2 o2 k2 HXS HGS HXD HGD HC
    go_wp2_with fail
    go_ret
    have hf : Fr2 (Self b) w2 (w2.setCell ⟨b, 6, none⟩ (.int .i64 (n : Int))) := (Fr2.refl _ _).setCell (mine b) _
    exact ⟨v, N', vn', rfl, HX2.out.turn hf ((set_cells (i := 6) HX2.out.box).trans rfl) HX2.out.ok, HS2.out.trans (Step.self hf), HO2.out, HK2.out⟩

set_option maxRecDepth 100000 in
set_option maxHeartbeats 4000000 in
theorem part_c (hD : D ≤ 200) (hn : n ≤ D) (hC : n < D → SubI b bb T D (n + 1) (fun s => s.inn = false) 164 (bodyE T D (n + 1) (NT T D (n + 1)))) : SubI b bb T D n (fun s => s.inn = false) 168 (NT T D n).expr := by
  intro s N vn A w hP h
  have HN := Lib.hid (nested_expression b bb T D n hD hn _ _ hC s N vn A w hP h)
  have HE := Lib.hid (expr_nest T hn s hP)
  clear h hC hP hn hD
  go_enter Tryz.func168, Tryz.ntmps168
  go_wp2_with fail
  refine HN.out.mono ?_
  rintro e w2 hp
  have HQ := Lib.hid (hp.eqv HE.out)
  obtain ⟨v, N', vn', rfl, -⟩ := hp
  clear HN
  go_wp2_with fail
  go_ret
  exact HQ.out
end
end Go.Proofs.YtddccnpohpaofaaGreatDoor
namespace Go.Proofs.YtddccnpohpaofaaGreatDoor
open Go.RowKit

/-- The keys and signs that the parser asks for. -/
def KS : List (List UInt8) := [[108, 101, 116], [105, 102], [97, 115, 115, 101, 114, 116], [61, 62], [124, 124], [38, 38], [110, 111, 116], [61], [60, 62], [60], [60, 61], [62], [62, 61], [43], [45], [42], [47], [37], [116, 114, 117, 101], [102, 97, 108, 115, 101], [114, 101, 115], [40], [41], [46], [44], [105, 109, 112, 111, 114, 116], [112, 117, 98], [102, 117, 110], [59], [58], [105, 110, 116], [98, 111, 111, 108], [123], [125], [105, 110], [116, 104, 101, 110], [101, 108, 115, 101]]
structure TokC (T : List Tok) : Prop where
  len : T.length ≤ 40000
  short : Short T
  ends : EndT T
  keys : ∀ (i : Nat) (t : Tok), T[i]? = some t → t.text ∈ KS → t.kind = 2 ∨ t.kind = 4
theorem tok_keys {T : List Tok} (h : TokC T) {s : St} (ht : (tokQ T s).text ∈ KS) : (tokQ T s).kind = 2 ∨ (tokQ T s).kind = 4 := by
  unfold tokQ at ht ⊢
  cases hq : T[s.i]? with
  | none => rw [hq] at ht; exact absurd ht (by decide)
  | some t => rw [hq] at ht; exact h.keys _ _ hq ht
theorem at_any {T : List Tok} (h : TokC T) {ws : List (List UInt8)} (hw : ∀ x ∈ ws, x ∈ KS) (s : St) : atQ T ws s = ws.any fun x => isQ T x s := by
  unfold atQ isQ
  by_cases he : s.e = 0
  · rw [decide_eq_true he, Bool.true_and]
    by_cases hm : (tokQ T s).text ∈ ws
    · rw [decide_eq_true hm]
      exact (List.any_eq_true.2 ⟨_, hm, decide_eq_true ⟨he, tok_keys h (hw _ hm), rfl⟩⟩).symm
    · rw [decide_eq_false hm]
      refine (List.any_eq_false.2 fun x hx => ?_).symm
      have : ¬ (s.e = 0 ∧ ((tokQ T s).kind = 2 ∨ (tokQ T s).kind = 4) ∧ (tokQ T s).text = x) := fun e => hm (e.2.2 ▸ hx)
      rw [decide_eq_false this]; decide
  · rw [decide_eq_false he, Bool.false_and]
    refine (List.any_eq_false.2 fun x hx => ?_).symm
    have : ¬ (s.e = 0 ∧ ((tokQ T s).kind = 2 ∨ (tokQ T s).kind = 4) ∧ (tokQ T s).text = x) := fun e => he e.1
    rw [decide_eq_false this]; decide
theorem at_one {T : List Tok} (h : TokC T) {x : List UInt8} (hx : x ∈ KS) (s : St) : atQ T [x] s = isQ T x s := by
  rw [at_any h (fun y hy => by rw [List.mem_singleton.1 hy]; exact hx)]; simp
theorem keys_of {T : List Tok} (h : TokC T) {ws : List (List UInt8)} (hw : ∀ x ∈ ws, x ∈ KS) : KeysT T ws := fun s hs => by
  rw [at_any h hw] at hs
  obtain ⟨x, -, hx⟩ := List.any_eq_true.1 hs
  exact is_kind hx
theorem mus_one {T : List Tok} (h : TokC T) {x : List UInt8} (hx : x ∈ KS) (s : St) : musT T [x] s = mustT T x s := by
  unfold musT mustT; rw [at_one h hx]

section
variable {b bb : Nat} {T : List Tok} {D n : Nat} {A0 : Nat → Prop} {vn0 : Value} {w0 w w' : World} {s : St} {u : Nat} {N : List Nd} {vn : Value} {L : List (Value × Th)}
theorem KX.ints1 (h : KX b bb T D n A0 vn0 w0 w s u N vn L) (a : Int) : KX b bb T D n A0 vn0 w0 (w.alloc (.cells #[.int .i64 a] 3)) s u N vn ((.slice (some ⟨w.heap.size, 0, none⟩) 1 1, .ints [a]) :: L) := h.ints [a] (by simp) (by simp)
theorem KX.ints2 (h : KX b bb T D n A0 vn0 w0 w s u N vn L) (a c : Int) : KX b bb T D n A0 vn0 w0 (w.alloc (.cells #[.int .i64 a, .int .i64 c] 3)) s u N vn ((.slice (some ⟨w.heap.size, 0, none⟩) 2 2, .ints [a, c]) :: L) := h.ints [a, c] (by simp) (by simp)
theorem KX.ints3 (h : KX b bb T D n A0 vn0 w0 w s u N vn L) (a c d : Int) : KX b bb T D n A0 vn0 w0 (w.alloc (.cells #[.int .i64 a, .int .i64 c, .int .i64 d] 3)) s u N vn ((.slice (some ⟨w.heap.size, 0, none⟩) 3 3, .ints [a, c, d]) :: L) := h.ints [a, c, d] (by simp) (by simp)
theorem KX.ints4 (h : KX b bb T D n A0 vn0 w0 w s u N vn L) (a c d e : Int) : KX b bb T D n A0 vn0 w0 (w.alloc (.cells #[.int .i64 a, .int .i64 c, .int .i64 d, .int .i64 e] 3)) s u N vn ((.slice (some ⟨w.heap.size, 0, none⟩) 4 4, .ints [a, c, d, e]) :: L) := h.ints [a, c, d, e] (by simp) (by simp)
theorem KX.ints6 (h : KX b bb T D n A0 vn0 w0 w s u N vn L) (a c d e f g : Int) : KX b bb T D n A0 vn0 w0 (w.alloc (.cells #[.int .i64 a, .int .i64 c, .int .i64 d, .int .i64 e, .int .i64 f, .int .i64 g] 3)) s u N vn ((.slice (some ⟨w.heap.size, 0, none⟩) 6 6, .ints [a, c, d, e, f, g]) :: L) := h.ints [a, c, d, e, f, g] (by simp) (by simp)

theorem KX.at {v : Value} {ws : List (List UInt8)} (hk : KX b bb T D n A0 vn0 w0 w s u N vn L) (hm : (v, Th.strs ws) ∈ L) (hn : ws.length ≤ 100) :
    Calls Tryz.prog 75 #[.pointer (some ⟨b, 0, none⟩), v] w fun e w' => e = .returned (.bool (atQ T ws s)) ∧ KX b bb T D n A0 vn0 w0 w' s u N vn L :=
  hk.val fun A h => at_c b bb T D n s u N vn v A ws w hn h (hk.str hm)
theorem KX.atx {v : Value} {ws : List (List UInt8)} (hk : KX b bb T D n A0 vn0 w0 w s u N vn L) (hm : ∃ v', v' = v ∧ (v', Th.strs ws) ∈ L) (hn : ws.length ≤ 100) :
    Calls Tryz.prog 75 #[.pointer (some ⟨b, 0, none⟩), v] w fun e w' => e = .returned (.bool (atQ T ws s)) ∧ KX b bb T D n A0 vn0 w0 w' s u N vn L := by
  obtain ⟨v', rfl, hm⟩ := hm
  exact hk.at hm hn
theorem KX.kind (hk : KX b bb T D n A0 vn0 w0 w s u N vn L) (k : Nat) :
    Calls Tryz.prog 77 #[.pointer (some ⟨b, 0, none⟩), .int .i64 (k : Int)] w fun e w' => e = .returned (.bool (decide (s.e = 0 ∧ (tokQ T s).kind = k))) ∧ KX b bb T D n A0 vn0 w0 w' s u N vn L :=
  hk.val fun A h => atKind_c b bb T D n s u N vn A k w h
/-- What a call in a row of calls leaves. -/
def CPost (b bb : Nat) (T : List Tok) (D n k : Nat) (A0 : Nat → Prop) (vn0 : Value) (w0 : World) (s : St) (r : RT) (N : List Nd) (L : List (Value × Th)) (e : Ending) (w' : World) : Prop :=
  ∃ (v : Int) (N' : List Nd) (vn' : Value), e = .returned (.int .i64 v) ∧ KX b bb T D n A0 vn0 w0 w' r.2 r.2.i N' vn' L ∧ OutD k N s r N' [v] ∧ (s.e ≠ 0 → r.2.e ≠ 0)
theorem KX.take (hk : KX b bb T D n A0 vn0 w0 w s s.i N vn L) (hC : TokC T) (h5 : (tokQ T s).kind ≠ 5) (he : s.e = 0) : Calls Tryz.prog 76 #[.pointer (some ⟨b, 0, none⟩)] w (CPost b bb T D n 1 A0 vn0 w0 s (leafT T s) N L) :=
  hk.call fun A h => take_i b bb T D n hC.len hC.short hC.ends s N vn A w h5 he h
theorem KX.one {v : Value} {ws : List (List UInt8)} (hk : KX b bb T D n A0 vn0 w0 w s s.i N vn L) (hC : TokC T) (hm : (v, Th.strs ws) ∈ L) (hn : ws.length ≤ 100) (hw : ∀ x ∈ ws, x ∈ KS) : Calls Tryz.prog 165 #[.pointer (some ⟨b, 0, none⟩), v] w (CPost b bb T D n 1 A0 vn0 w0 s (musT T ws s) N L) :=
  hk.call fun A h => one_c b bb T D n hC.len hC.short hC.ends ws hn (keys_of hC hw) s N vn v A w h (hk.str hm)
theorem KX.one1 {v : Value} (x : List UInt8) (hk : KX b bb T D n A0 vn0 w0 w s s.i N vn L) (hC : TokC T) (hw : x ∈ KS) (hm : ∃ v', v' = v ∧ (v', Th.strs [x]) ∈ L) : Calls Tryz.prog 165 #[.pointer (some ⟨b, 0, none⟩), v] w (CPost b bb T D n 1 A0 vn0 w0 s (mustT T x s) N L) := by
  obtain ⟨v', rfl, hm⟩ := hm
  rw [← mus_one hC hw]
  exact hk.one hC hm (by simp) (fun y hy => by rw [List.mem_singleton.1 hy]; exact hw)
theorem KX.oneOf (hk : KX b bb T D n A0 vn0 w0 w s s.i N vn L) (hC : TokC T) (k : Nat) (hk5 : k ≠ 5) : Calls Tryz.prog 45 #[.pointer (some ⟨b, 0, none⟩), .int .i64 (k : Int)] w (CPost b bb T D n 1 A0 vn0 w0 s (kindT T k s) N L) :=
  hk.call fun A h => oneOf_c b bb T D n hC.len hC.short hC.ends k hk5 s N vn A w h
theorem KX.word (hk : KX b bb T D n A0 vn0 w0 w s s.i N vn L) (hC : TokC T) : Calls Tryz.prog 45 #[.pointer (some ⟨b, 0, none⟩), .int .i64 1] w (CPost b bb T D n 1 A0 vn0 w0 s (kindT T 1 s) N L) := hk.oneOf hC 1 (by decide)
theorem KX.sub {P : St → Prop} {f : Nat} {sub : St → RT} (hk : KX b bb T D n A0 vn0 w0 w s s.i N vn L) (hC : SubI b bb T D n P f sub) (hP : P s) : Calls Tryz.prog f #[.pointer (some ⟨b, 0, none⟩)] w (CPost b bb T D n 0 A0 vn0 w0 s (sub s) N L) :=
  hk.call fun A h => hC s N vn A w hP h
theorem KX.fail (hk : KX b bb T D n A0 vn0 w0 w s s.i N vn L) (m : Nat) (hm : m ≠ 0) : Calls Tryz.prog 73 #[.pointer (some ⟨b, 0, none⟩), .int .i64 (m : Int)] w (CPost b bb T D n 0 A0 vn0 w0 s ([], failQ T m s) N L) :=
  hk.call fun A h => (pfail_c b bb T D n m s s.i N vn A w h).mono (by
    rintro e w' ⟨rfl, h2, h3⟩
    exact IPost.fail hm h2 h3)
/-- What a function answers in the end. -/
theorem KX.fin {k : Nat} {r r' : RT} {s0 : St} {N0 : List Nd} {x : Int} {w' : World} {N' : List Nd} {vn' : Value} (ho : OutD k N0 s0 r N' [x]) (hk : KX b bb T D n A0 vn0 w0 w' r.2 r.2.i N' vn' L) (hd : s0.e ≠ 0 → r.2.e ≠ 0) (he : Eqv r r') : IPost b bb T D n 0 s0 r' N0 vn0 A0 w0 (.returned (.int .i64 x)) w' := by
  obtain ⟨h1, h2⟩ := hk.done
  exact IPost.eqv ⟨x, N', vn', rfl, h1, h2, ho.weak (Nat.zero_le _), hd⟩ he
end
end Go.Proofs.YtddccnpohpaofaaGreatDoor
